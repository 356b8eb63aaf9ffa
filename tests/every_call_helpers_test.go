package tests

import (
	"cmp"
	"fmt"
	"reflect"
	"slices"
	"strings"
	"testing"
)

// A functionCalls has a function of the program, and what it is called with, each time.
type functionCalls struct {
	name     string
	function any
	calls    [][]any
}

func some[T any](values ...T) []any {
	var out []any
	for _, v := range values {
		out = append(out, v)
	}
	return out
}

// crossed answers each choice of one value of each list.
func crossed(lists ...[]any) [][]any {
	out := [][]any{nil}
	for _, l := range lists {
		var next [][]any
		for _, head := range out {
			for _, v := range l {
				next = append(next, append(slices.Clone(head), v))
			}
		}
		out = next
	}
	return out
}

// setAll gives each number, flag and text in v another value; its lists are gone.
func setAll(v reflect.Value, number int64, text string) {
	switch v.Kind() {
	case reflect.Int64:
		v.SetInt(number)
	case reflect.Bool:
		v.SetBool(true)
	case reflect.String:
		v.SetString(text)
	case reflect.Slice:
		v.SetZero()
	case reflect.Struct:
		for i := range v.NumField() {
			setAll(v.Field(i), number, text)
		}
	default:
		panic("no argument has a " + v.Kind().String())
	}
}

// withRooms answers a copy of v that shares no memory with it, and in which each list has marked room behind it.
func withRooms(v reflect.Value) reflect.Value {
	switch v.Kind() {
	case reflect.Slice:
		const room = 2
		n := v.Len()
		whole := reflect.MakeSlice(v.Type(), n+room, n+room)
		for i := range n + room {
			if i < n {
				whole.Index(i).Set(withRooms(v.Index(i)))
			} else {
				setAll(whole.Index(i), -77, "room")
			}
		}
		return whole.Slice(0, n)
	case reflect.Struct:
		out := reflect.New(v.Type()).Elem()
		for i := range v.NumField() {
			out.Field(i).Set(withRooms(v.Field(i)))
		}
		return out
	}
	return v
}

// written has all of v, and with rooms all that stands behind its lists, too; an empty list is written as none is.
func written(out *strings.Builder, v reflect.Value, rooms bool) {
	switch v.Kind() {
	case reflect.Slice:
		if rooms {
			v = v.Slice(0, v.Cap())
		}
		fmt.Fprintf(out, "[%d:", v.Len())
		for i := range v.Len() {
			written(out, v.Index(i), rooms)
		}
	case reflect.Struct:
		out.WriteString("{")
		for i := range v.NumField() {
			written(out, v.Field(i), rooms)
		}
	case reflect.String:
		fmt.Fprintf(out, "(%d:%s)", v.Len(), v.String())
	default:
		fmt.Fprintf(out, "<%v>", v.Interface())
	}
}

func allWritten(l []reflect.Value, rooms bool) string {
	var out strings.Builder
	for _, v := range l {
		written(&out, v, rooms)
	}
	return out.String()
}

// listsOf answers all lists in v, the ones that are in others, too.
func listsOf(v reflect.Value) []reflect.Value {
	var out []reflect.Value
	switch v.Kind() {
	case reflect.Slice:
		out = append(out, v)
		for i := range v.Len() {
			out = append(out, listsOf(v.Index(i))...)
		}
	case reflect.Struct:
		for i := range v.NumField() {
			out = append(out, listsOf(v.Field(i))...)
		}
	}
	return out
}

func allLists(l []reflect.Value) []reflect.Value {
	var out []reflect.Value
	for _, v := range l {
		out = append(out, listsOf(v)...)
	}
	return out
}

// spoilLists writes over all lists, and over the room behind each.
func spoilLists(lists []reflect.Value) {
	for _, l := range lists {
		whole := l.Slice(0, l.Cap())
		for i := range whole.Len() {
			setAll(whole.Index(i), -88, "spoilt")
		}
	}
}

// shareMemory tells whether two of the lists have a byte in common, the room behind them among them.
func shareMemory(lists []reflect.Value) bool {
	var spans [][2]uintptr
	for _, l := range lists {
		if l.Cap() > 0 {
			spans = append(spans, [2]uintptr{l.Pointer(), l.Pointer() + uintptr(l.Cap())*l.Type().Elem().Size()})
		}
	}
	slices.SortFunc(spans, func(a, b [2]uintptr) int { return cmp.Compare(a[0], b[0]) })
	for i := 1; i < len(spans); i++ {
		if spans[i][0] < spans[i-1][1] {
			return true
		}
	}
	return false
}

func valuesOf(args []any) []reflect.Value {
	var out []reflect.Value
	for _, arg := range args {
		out = append(out, reflect.ValueOf(arg))
	}
	return out
}

// called answers what a call gives, as a text, and the lists that it gave, spoilt by now; it holds the arguments against what they were.
func called(t *testing.T, c functionCalls, args []any) (string, []reflect.Value) {
	t.Helper()
	var in []reflect.Value
	for _, v := range valuesOf(args) {
		in = append(in, withRooms(v))
	}
	was := allWritten(in, true)
	out := reflect.ValueOf(c.function).Call(in)
	said := allWritten(out, false)
	if allWritten(in, true) != was {
		t.Errorf("%s wrote into an argument: %.300q", c.name, was)
	}
	lists := allLists(out)
	if shareMemory(append(allLists(in), lists...)) {
		t.Errorf("%s answers a list that shares memory with another one: %.300q", c.name, was)
	}
	spoilLists(lists)
	if allWritten(in, true) != was {
		t.Errorf("what %s answers shares memory with an argument: %.300q", c.name, was)
	}
	return said, lists
}
