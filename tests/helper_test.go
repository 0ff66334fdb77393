package tests

import (
	"math/rand"
	"reflect"
	"strings"
	"testing"

	"loop.example/portolan/impl"
)

// deep is a copy that shares no memory, empty lists being nil.
func deep[T any](x T) T {
	out := reflect.New(reflect.TypeOf(x)).Elem()
	out.Set(deepValue(reflect.ValueOf(x)))
	return out.Interface().(T)
}

func deepValue(v reflect.Value) reflect.Value {
	out := reflect.New(v.Type()).Elem()
	switch v.Kind() {
	case reflect.Struct:
		for i := 0; i < v.NumField(); i++ {
			out.Field(i).Set(deepValue(v.Field(i)))
		}
	case reflect.Slice:
		for i := 0; i < v.Len(); i++ {
			out = reflect.Append(out, deepValue(v.Index(i)))
		}
	default:
		out.Set(v)
	}
	return out
}

func same[T any](a, b T) bool {
	return reflect.DeepEqual(deep(a), deep(b))
}

// isNothing says whether something is the zero value, all lists empty.
func isNothing[T any](x T) bool {
	var zero T
	return same(x, zero)
}

// span is memory that a list has, spare room included.
type span struct{ from, to uintptr }

func spans(v reflect.Value) []span {
	var out []span
	switch v.Kind() {
	case reflect.Struct:
		for i := 0; i < v.NumField(); i++ {
			out = append(out, spans(v.Field(i))...)
		}
	case reflect.Slice:
		if v.Cap() > 0 {
			from := v.Pointer()
			out = append(out, span{from, from + uintptr(v.Cap())*v.Type().Elem().Size()})
		}
		for i := 0; i < v.Len(); i++ {
			out = append(out, spans(v.Index(i))...)
		}
	}
	return out
}

// wantApart fails if an answer shares memory with an argument, or two of its lists share any.
func wantApart(t *testing.T, answer any, arguments ...any) {
	t.Helper()
	own := spans(reflect.ValueOf(answer))
	for i, a := range own {
		for _, b := range own[:i] {
			if a.from < b.to && b.from < a.to {
				t.Errorf("two lists of an answer share memory: %v", answer)
			}
		}
	}
	for _, argument := range arguments {
		for _, b := range spans(reflect.ValueOf(argument)) {
			for _, a := range own {
				if a.from < b.to && b.from < a.to {
					t.Errorf("an answer shares memory with an argument: %v", answer)
				}
			}
		}
	}
}

// roomy is a copy whose lists each have spare room, filled with a mark.
func roomy[T any](x T) T {
	out := reflect.New(reflect.TypeOf(x)).Elem()
	out.Set(roomyValue(reflect.ValueOf(x)))
	return out.Interface().(T)
}

func roomyValue(v reflect.Value) reflect.Value {
	out := reflect.New(v.Type()).Elem()
	switch v.Kind() {
	case reflect.Struct:
		for i := 0; i < v.NumField(); i++ {
			out.Field(i).Set(roomyValue(v.Field(i)))
		}
	case reflect.Slice:
		n := v.Len()
		out.Set(reflect.MakeSlice(v.Type(), n+2, n+2))
		for i := 0; i < n; i++ {
			out.Index(i).Set(roomyValue(v.Index(i)))
		}
		fillMark(out.Index(n))
		fillMark(out.Index(n + 1))
		out.Set(out.Slice(0, n))
	default:
		out.Set(v)
	}
	return out
}

func fillMark(v reflect.Value) {
	switch v.Kind() {
	case reflect.String:
		v.SetString("mark")
	case reflect.Int:
		v.SetInt(77)
	case reflect.Struct:
		for i := 0; i < v.NumField(); i++ {
			fillMark(v.Field(i))
		}
	}
}

// unroll is a copy in which the lists' spare room is part of them: what was written there can be seen.
func unroll[T any](x T) T {
	out := reflect.New(reflect.TypeOf(x)).Elem()
	out.Set(unrollValue(reflect.ValueOf(x)))
	return out.Interface().(T)
}

func unrollValue(v reflect.Value) reflect.Value {
	if v.Kind() == reflect.Slice {
		v = v.Slice(0, v.Cap())
	}
	out := reflect.New(v.Type()).Elem()
	switch v.Kind() {
	case reflect.Struct:
		for i := 0; i < v.NumField(); i++ {
			out.Field(i).Set(unrollValue(v.Field(i)))
		}
	case reflect.Slice:
		for i := 0; i < v.Len(); i++ {
			out = reflect.Append(out, unrollValue(v.Index(i)))
		}
	default:
		out.Set(v)
	}
	return out
}

// wantUntouched runs a call with arguments that have spare room, and fails if anything of them or behind their ends is changed.
func wantUntouched[T any](t *testing.T, argument T, call func(T)) {
	t.Helper()
	x := roomy(argument)
	before := unroll(x)
	call(x)
	if !reflect.DeepEqual(before, unroll(x)) {
		t.Errorf("an argument was changed: %v", argument)
	}
}

func null() impl.Value         { return impl.Value{Sort: impl.JsonNull} }
func number(n int) impl.Value  { return impl.Value{Sort: impl.JsonInt, Num: n} }
func text(s string) impl.Value { return impl.Value{Sort: impl.JsonText, Text: s} }
func list(k ...impl.Value) impl.Value {
	return impl.Value{Sort: impl.JsonList, Kids: k}
}
func truth(yes bool) impl.Value {
	v := impl.Value{Sort: impl.JsonBool}
	if yes {
		v.Num = 1
	}
	return v
}

// object is an object of names, a comma between, and its kids.
func object(names string, kids ...impl.Value) impl.Value {
	v := impl.Value{Sort: impl.JsonObj, Kids: kids}
	if names != "" {
		v.Names = strings.Split(names, ",")
	}
	return v
}

// anyValue is an ok value by chance, with few levels.
func anyValue(r *rand.Rand, levels int) impl.Value {
	sort := 1 + r.Intn(6)
	if levels == 0 {
		sort = 1 + r.Intn(4)
	}
	switch sort {
	case impl.JsonNull:
		return null()
	case impl.JsonBool:
		return truth(r.Intn(2) == 1)
	case impl.JsonInt:
		return number([]int{0, 1, -1, 10, -10, 100, impl.JsonMaxNum, -impl.JsonMaxNum, r.Intn(100000)}[r.Intn(9)])
	case impl.JsonText:
		b := make([]byte, r.Intn(impl.JsonMaxText+1))
		for i := range b {
			b[i] = byte(32 + r.Intn(95))
			if r.Intn(3) == 0 {
				b[i] = "\"\\"[r.Intn(2)]
			}
		}
		return text(string(b))
	case impl.JsonList:
		v := list()
		for range r.Intn(4) {
			v.Kids = append(v.Kids, anyValue(r, levels-1))
		}
		return v
	}
	v := object("")
	for _, name := range []string{"a", "_id", "abcdefghi", "z9", "_"} {
		if r.Intn(2) == 0 {
			v.Names = append(v.Names, name)
			v.Kids = append(v.Kids, anyValue(r, levels-1))
		}
	}
	return v
}
