package tests

import (
	"cmp"
	"reflect"
	"slices"
	"testing"
)

// What is asked of memory in every chapter: a call writes into nothing that it was given, not even into the spare room
// behind a list, and no list of its answer shares memory with an argument or with another list of the answer.

// spare is how many places each list has behind it that are none of the call's business.
const spare = 3

// checkMemory makes one call, of which args are all arguments in one struct.
func checkMemory[A any, R any](t *testing.T, name string, args A, call func(args A) R) {
	t.Helper()
	if fault := memoryFault(args, call); fault != "" {
		t.Error(name, fault)
	}
}

// memoryFault is empty when all is as it must be.
func memoryFault[A any, R any](args A, call func(args A) R) string {
	given := roomy(args)
	before := whole(given)
	answer := call(given)
	if !reflect.DeepEqual(whole(given), before) {
		return "wrote into an argument, or behind it"
	}
	// The arguments' own lists lie apart, so two spans that meet have at least one of the answer.
	spans := append(spansOf(reflect.ValueOf(given)), spansOf(reflect.ValueOf(answer))...)
	slices.SortFunc(spans, func(a span, b span) int { return cmp.Compare(a.from, b.from) })
	for i := 1; i < len(spans); i++ {
		if spans[i].from < spans[i-1].to {
			return "answers with memory of an argument, or with the same memory twice"
		}
	}
	return ""
}

// span is the memory of one list, its spare room too.
type span struct {
	from uintptr
	to   uintptr
}

func spansOf(v reflect.Value) []span {
	var spans []span
	walk(v, func(list reflect.Value) {
		if size := list.Type().Elem().Size(); list.Cap() > 0 && size > 0 {
			spans = append(spans, span{list.Pointer(), list.Pointer() + uintptr(list.Cap())*size})
		}
	})
	return spans
}

// walk shows every list in a value, those in the spare room of others too.
func walk(v reflect.Value, show func(list reflect.Value)) {
	switch v.Kind() {
	case reflect.Slice:
		show(v)
		for i := range v.Cap() {
			walk(v.Slice(0, v.Cap()).Index(i), show)
		}
	case reflect.Array:
		for i := range v.Len() {
			walk(v.Index(i), show)
		}
	case reflect.Struct:
		for i := range v.NumField() {
			walk(v.Field(i), show)
		}
	}
}

// whole is a copy in which the spare room of every list is part of it.
func whole[T any](v T) T {
	return remade(v, func(list reflect.Value) reflect.Value { return list.Slice(0, list.Cap()) }, 0)
}

// roomy is a copy in which every list has spare room behind it, with something in each place.
func roomy[T any](v T) T {
	return remade(v, func(list reflect.Value) reflect.Value { return list }, spare)
}

// same is a copy that shares nothing.
func same[T any](v T) T {
	return remade(v, func(list reflect.Value) reflect.Value { return list }, 0)
}

func remade[T any](v T, view func(list reflect.Value) reflect.Value, room int) T {
	var made T
	remake(reflect.ValueOf(&made).Elem(), reflect.ValueOf(v), view, room)
	return made
}

func remake(into reflect.Value, from reflect.Value, view func(list reflect.Value) reflect.Value, room int) {
	switch from.Kind() {
	case reflect.Slice:
		list := view(from)
		if list.IsNil() && room == 0 {
			return
		}
		all := reflect.MakeSlice(from.Type(), list.Len()+room, list.Len()+room)
		for i := range list.Len() {
			remake(all.Index(i), list.Index(i), view, room)
		}
		for i := range room {
			litter(all.Index(list.Len()+i), int64(i))
		}
		into.Set(all.Slice(0, list.Len()))
	case reflect.Struct:
		for i := range from.NumField() {
			remake(into.Field(i), from.Field(i), view, room)
		}
	default:
		into.Set(from)
	}
}

// litter fills a place with what no test asks for.
func litter(v reflect.Value, n int64) {
	switch v.Kind() {
	case reflect.Int64:
		v.SetInt(-1000 - n)
	case reflect.Uint8, reflect.Uint64:
		v.SetUint(uint64(200 + n))
	case reflect.Bool:
		v.SetBool(true)
	case reflect.String:
		v.SetString("litter")
	case reflect.Slice:
		v.Set(reflect.MakeSlice(v.Type(), 1, 2))
		litter(v.Index(0), n)
	case reflect.Struct:
		for i := range v.NumField() {
			litter(v.Field(i), n)
		}
	}
}

const sharerFaults = 6

// sharer is a call that does what a call must not: one thing for each number below sharerFaults.
func sharer(fault int, lists [][]int64) [][]int64 {
	switch fault {
	case 0:
		lists[1][0]++
	case 1:
		_ = append(lists[1], 5)
	case 2:
		return [][]int64{lists[0]}
	case 3:
		return [][]int64{lists[1][1:1]}
	case 4:
		one := []int64{1, 2, 3}
		return [][]int64{one[:1], one[2:]}
	case 5:
		one := []int64{1, 2, 3}
		return [][]int64{one, one}
	}
	return [][]int64{append([]int64(nil), lists[0]...), {1}, {}}
}

// A question that no fault could fail would be none.
func TestMemoryIsLookedAt(t *testing.T) {
	lists := [][]int64{{1, 2}, {3, 4, 5}}
	for fault := range sharerFaults {
		if memoryFault(lists, func(lists [][]int64) [][]int64 { return sharer(fault, lists) }) == "" {
			t.Error("not found: fault", fault)
		}
	}
	checkMemory(t, "sharer", lists, func(lists [][]int64) [][]int64 { return sharer(sharerFaults, lists) })
}
