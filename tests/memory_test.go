package tests

import (
	"math"
	"reflect"
	"testing"
)

// How many places laidOut puts behind a list's length.
const behind = 2

// laidOut gives v again in memory of its own, each list with room behind its length that holds
// other things: whoever reads or writes there is found out.
func laidOut(v reflect.Value) reflect.Value {
	out := reflect.New(v.Type()).Elem()
	switch v.Kind() {
	case reflect.Slice:
		room := reflect.MakeSlice(v.Type(), v.Len()+behind, v.Len()+behind)
		for i := range v.Len() {
			room.Index(i).Set(laidOut(v.Index(i)))
		}
		for i := range behind {
			room.Index(v.Len() + i).Set(otherThing(v.Type().Elem()))
		}
		out.Set(room.Slice(0, v.Len()))
	case reflect.Array:
		for i := range v.Len() {
			out.Index(i).Set(laidOut(v.Index(i)))
		}
	case reflect.Struct:
		for i := range v.NumField() {
			out.Field(i).Set(laidOut(v.Field(i)))
		}
	default:
		out.Set(v)
	}
	return out
}

// otherThing gives a thing of that type that no test hands in.
func otherThing(kind reflect.Type) reflect.Value {
	out := reflect.New(kind).Elem()
	switch {
	case out.CanInt():
		out.SetInt(77)
	case out.CanUint():
		out.SetUint(77)
	case out.CanFloat():
		out.SetFloat(77)
	case kind.Kind() == reflect.Bool:
		out.SetBool(true)
	case kind.Kind() == reflect.String:
		out.SetString("behind_the_length")
	case kind.Kind() == reflect.Slice:
		out.Set(reflect.MakeSlice(kind, 1, 1))
		out.Index(0).Set(otherThing(kind.Elem()))
	case kind.Kind() == reflect.Struct:
		for i := range out.NumField() {
			out.Field(i).Set(otherThing(kind.Field(i).Type))
		}
	}
	return out
}

// bare gives v again in memory of its own, empty lists as nil and no room behind the others.
func bare(v reflect.Value) reflect.Value {
	out := reflect.New(v.Type()).Elem()
	switch v.Kind() {
	case reflect.Slice:
		for i := range v.Len() {
			if i == 0 {
				out.Set(reflect.MakeSlice(v.Type(), v.Len(), v.Len()))
			}
			out.Index(i).Set(bare(v.Index(i)))
		}
	case reflect.Array:
		for i := range v.Len() {
			out.Index(i).Set(bare(v.Index(i)))
		}
	case reflect.Struct:
		for i := range v.NumField() {
			out.Field(i).Set(bare(v.Field(i)))
		}
	default:
		out.Set(v)
	}
	return out
}

// alike tells whether two values say the same, the empty list and the nil list being one.
func alike(a any, b any) bool {
	return sameThing(bare(reflect.ValueOf(a)), bare(reflect.ValueOf(b)))
}

// sameThing compares floats by their bits, so that NaN is itself and the two noughts are two.
func sameThing(a reflect.Value, b reflect.Value) bool {
	if a.Type() != b.Type() {
		return false
	}
	switch a.Kind() {
	case reflect.Float64:
		return math.Float64bits(a.Float()) == math.Float64bits(b.Float())
	case reflect.Slice, reflect.Array:
		if a.Len() != b.Len() {
			return false
		}
		for i := range a.Len() {
			if !sameThing(a.Index(i), b.Index(i)) {
				return false
			}
		}
		return true
	case reflect.Struct:
		for i := range a.NumField() {
			if !sameThing(a.Field(i), b.Field(i)) {
				return false
			}
		}
		return true
	}
	return a.Equal(b)
}

// opened gives v with its lists as long as their room is.
func opened(v reflect.Value) reflect.Value {
	out := reflect.New(v.Type()).Elem()
	switch v.Kind() {
	case reflect.Slice:
		out.Set(reflect.MakeSlice(v.Type(), v.Cap(), v.Cap()))
		for i := range v.Cap() {
			out.Index(i).Set(opened(v.Slice(0, v.Cap()).Index(i)))
		}
	case reflect.Array:
		for i := range v.Len() {
			out.Index(i).Set(opened(v.Index(i)))
		}
	case reflect.Struct:
		for i := range v.NumField() {
			out.Field(i).Set(opened(v.Field(i)))
		}
	default:
		out.Set(v)
	}
	return out
}

// room is the memory of a list, up to its capacity.
type room struct {
	from uintptr
	to   uintptr
}

func (r room) meets(s room) bool {
	return r.from < s.to && s.from < r.to
}

// roomsOf gives the rooms of all lists in v.
func roomsOf(v reflect.Value) []room {
	var out []room
	switch v.Kind() {
	case reflect.Slice:
		if v.Cap() > 0 {
			out = append(out, room{v.Pointer(), v.Pointer() + uintptr(v.Cap())*v.Type().Elem().Size()})
		}
		for i := range v.Len() {
			out = append(out, roomsOf(v.Index(i))...)
		}
	case reflect.Array:
		for i := range v.Len() {
			out = append(out, roomsOf(v.Index(i))...)
		}
	case reflect.Struct:
		for i := range v.NumField() {
			out = append(out, roomsOf(v.Field(i))...)
		}
	}
	return out
}

// purely calls f and asks for what holds of every function: it ends, writes into no argument, reads
// nothing behind a list's length, takes nil for the empty list, and answers in new memory, each list
// in its own. It gives the answers.
func purely(t *testing.T, what string, f any, args ...any) []any {
	t.Helper()
	given, kept, plain := laidRows(args)
	defer func() {
		if r := recover(); r != nil {
			t.Errorf("%s: panic: %v", what, r)
		}
	}()
	answers := reflect.ValueOf(f).Call(given)
	var out []any
	taken := []room{}
	for i, v := range given {
		if !sameThing(opened(v), kept[i]) {
			t.Errorf("%s: argument %d was written into", what, i)
		}
		taken = append(taken, roomsOf(v)...)
	}
	for _, v := range answers {
		out = append(out, bare(v).Interface())
		for _, r := range roomsOf(v) {
			for _, s := range taken {
				if r.meets(s) {
					t.Errorf("%s: a list of the answer shares memory", what)
				}
			}
			taken = append(taken, r)
		}
	}
	for i, v := range reflect.ValueOf(f).Call(plain) {
		if !alike(v.Interface(), out[i]) {
			t.Errorf("%s: answer %d hangs on how the lists lie in memory: %v and %v", what, i, out[i], v.Interface())
		}
	}
	return out
}

// laidRows lays the arguments out with room behind, keeps what is in all of that room, and gives them bare.
func laidRows(args []any) (given []reflect.Value, kept []reflect.Value, plain []reflect.Value) {
	for _, a := range args {
		v := laidOut(reflect.ValueOf(a))
		given = append(given, v)
		kept = append(kept, opened(v))
		plain = append(plain, bare(reflect.ValueOf(a)))
	}
	return given, kept, plain
}
