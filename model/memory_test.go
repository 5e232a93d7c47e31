package model_test

import (
	"cmp"
	"reflect"
	"slices"
)

// part is the memory of a list, with what lies behind its elements.
type part struct {
	from, to uintptr
	result   bool
}

func parts(v reflect.Value, result bool) []part {
	var l []part
	switch v.Kind() {
	case reflect.Slice:
		if v.Cap() > 0 {
			l = append(l, part{v.Pointer(), v.Pointer() + uintptr(v.Cap())*v.Type().Elem().Size(), result})
		}
		for i := range v.Len() {
			l = append(l, parts(v.Index(i), result)...)
		}
	case reflect.Struct:
		for i := range v.NumField() {
			l = append(l, parts(v.Field(i), result)...)
		}
	}
	return l
}

// shared reports whether some list of the results has memory of another list of them, or of an argument.
func shared(results, args []any) bool {
	var l []part
	for _, x := range results {
		l = append(l, parts(reflect.ValueOf(x), true)...)
	}
	for _, x := range args {
		l = append(l, parts(reflect.ValueOf(x), false)...)
	}
	slices.SortFunc(l, func(a, b part) int { return cmp.Compare(a.from, b.from) })
	var last, lastResult uintptr // how far the memory of any list, and of a result, goes so far
	for _, p := range l {
		if p.from < lastResult || p.result && p.from < last {
			return true
		}
		last = max(last, p.to)
		if p.result {
			lastResult = max(lastResult, p.to)
		}
	}
	return false
}
