// Package rules tests what holds for the functions of all layers: P1 (nothing panics), P2 (memory), P3 (the same again).
package rules

import (
	"maps"
	"math"
	"math/rand"
	"reflect"
	"slices"
	"strings"
	"testing"

	"escrow/api"
	"escrow/code"
	"escrow/coll"
	"escrow/desk"
	"escrow/frames"
	"escrow/ledger"
	"escrow/local"
	"escrow/ops"
	"escrow/ranges"
	"escrow/replica"
	"escrow/schema"
	"escrow/shell"
	"escrow/vector"
	"escrow/wire"
)

// functions are those of the layers that take and return plain values.
func functions() map[string]any {
	return map[string]any{
		"code.Int": code.Int, "code.Text": code.Text, "code.Ints": code.Ints,
		"frames.Crc": frames.Crc, "frames.Frame": frames.Frame, "frames.Scan": frames.Scan, "frames.One": frames.One,
		"vector.Get": vector.Get, "vector.Step": vector.Step, "vector.Join": vector.Join, "vector.Le": vector.Le, "vector.Has": vector.Has,
		"schema.Up": schema.Up, "schema.Pick": schema.Pick,
		"ops.Check": ops.Check, "ops.Bytes": ops.Bytes, "ops.Parse": ops.Parse, "ops.Same": ops.Same,
		"coll.Apply": coll.Apply, "coll.Reg": coll.Reg, "coll.Members": coll.Members, "coll.Dots": coll.Dots, "coll.Count": coll.Count, "coll.Bound": coll.Bound, "coll.Same": coll.Same,
		"ranges.Len": ranges.Len, "ranges.Has": ranges.Has, "ranges.Add": ranges.Add, "ranges.Take": ranges.Take, "ranges.Less": ranges.Less,
		"ledger.New": ledger.New, "ledger.Find": ledger.Find, "ledger.Grant": ledger.Grant, "ledger.Spend": ledger.Spend, "ledger.Put": ledger.Put, "ledger.Free": ledger.Free, "ledger.Totals": ledger.Totals, "ledger.Sound": ledger.Sound, "ledger.Same": ledger.Same,
		"desk.New": desk.New, "desk.Do": desk.Do, "desk.Delta": desk.Delta, "desk.Same": desk.Same,
		"wire.Cmd": wire.Cmd, "wire.ParseCmd": wire.ParseCmd, "wire.Bytes": wire.Bytes, "wire.Parse": wire.Parse, "wire.Same": wire.Same,
		"replica.New": replica.New, "replica.Last": replica.Last, "replica.Tick": replica.Tick, "replica.Take": replica.Take, "replica.Propose": replica.Propose, "replica.Compact": replica.Compact, "replica.Wake": replica.Wake, "replica.Same": replica.Same,
		"local.New": local.New, "local.Begin": local.Begin, "local.Reply": local.Reply, "local.Do": local.Do, "local.Delta": local.Delta, "local.Time": local.Time, "local.View": local.View, "local.Same": local.Same,
		"shell.Words": shell.Words, "shell.Quote": shell.Quote,
	}
}

// maker makes values: any at all, and such as earlier calls have returned.
type maker struct {
	rnd  *rand.Rand
	wild bool
	pool map[reflect.Type][]reflect.Value
}

func (m *maker) number() int {
	if m.wild && m.rnd.Intn(4) == 0 {
		return []int{math.MaxInt, math.MinInt, -1, 1 << 30, 1<<30 + 1, 1 << 40, -1 << 40, math.MaxInt - 1, 1 << 62}[m.rnd.Intn(9)]
	}
	return m.rnd.Intn(7)
}

func (m *maker) text() string {
	if m.wild && m.rnd.Intn(5) == 0 {
		return []string{"\n", strings.Repeat("z", 41), "\x7f", "\"", "\\x"}[m.rnd.Intn(5)]
	}
	return []string{"", "x", "y", "X ", "k"}[m.rnd.Intn(5)]
}

// keep puts a value where later calls may take it from.
func (m *maker) keep(v reflect.Value) {
	switch v.Kind() {
	case reflect.Struct, reflect.Slice:
	default:
		return
	}
	l := m.pool[v.Type()]
	if len(l) < 60 {
		m.pool[v.Type()] = append(l, v)
	} else {
		l[m.rnd.Intn(len(l))] = v
	}
	if v.Kind() == reflect.Slice && v.Type().Elem().Kind() == reflect.Struct {
		for i := range v.Len() {
			m.keep(v.Index(i))
		}
	}
}

func (m *maker) value(t reflect.Type) reflect.Value {
	if l := m.pool[t]; len(l) > 0 && m.rnd.Intn(4) > 0 {
		return roomy(l[m.rnd.Intn(len(l))])
	}
	v := reflect.New(t).Elem()
	switch t.Kind() {
	case reflect.Int:
		v.SetInt(int64(m.number()))
	case reflect.Uint8:
		v.SetUint(uint64(m.rnd.Intn(256)))
	case reflect.Bool:
		v.SetBool(m.rnd.Intn(2) == 0)
	case reflect.String:
		v.SetString(m.text())
	case reflect.Struct:
		for i := range v.NumField() {
			v.Field(i).Set(m.value(v.Field(i).Type()))
		}
	case reflect.Array:
		for i := range v.Len() {
			v.Index(i).Set(m.value(t.Elem()))
		}
	case reflect.Slice:
		n := m.rnd.Intn(4)
		v = reflect.MakeSlice(t, n, n+3)
		for i := range n {
			v.Index(i).Set(m.value(t.Elem()))
		}
	}
	return v
}

// roomy copies a value; its slices have spare room.
func roomy(v reflect.Value) reflect.Value {
	out := reflect.New(v.Type()).Elem()
	out.Set(v)
	switch v.Kind() {
	case reflect.Struct:
		for i := range v.NumField() {
			out.Field(i).Set(roomy(v.Field(i)))
		}
	case reflect.Array:
		for i := range v.Len() {
			out.Index(i).Set(roomy(v.Index(i)))
		}
	case reflect.Slice:
		out = reflect.MakeSlice(v.Type(), v.Len(), v.Len()+3)
		for i := range v.Len() {
			out.Index(i).Set(roomy(v.Index(i)))
		}
	}
	return out
}

// shown copies a value; its slices reach as far as their room does.
func shown(v reflect.Value) reflect.Value {
	out := reflect.New(v.Type()).Elem()
	out.Set(v)
	switch v.Kind() {
	case reflect.Struct:
		for i := range v.NumField() {
			out.Field(i).Set(shown(v.Field(i)))
		}
	case reflect.Array:
		for i := range v.Len() {
			out.Index(i).Set(shown(v.Index(i)))
		}
	case reflect.Slice:
		whole := v.Slice(0, v.Cap())
		out = reflect.MakeSlice(v.Type(), v.Cap(), v.Cap())
		for i := range v.Cap() {
			out.Index(i).Set(shown(whole.Index(i)))
		}
	}
	return out
}

// extent is where a slice lies in memory.
type extent struct{ from, to uintptr }

// extents tells where the slices of a value lie, with their spare room.
func extents(v reflect.Value, l []extent) []extent {
	switch v.Kind() {
	case reflect.Struct:
		for i := range v.NumField() {
			l = extents(v.Field(i), l)
		}
	case reflect.Array:
		for i := range v.Len() {
			l = extents(v.Index(i), l)
		}
	case reflect.Slice:
		if v.Cap() > 0 {
			l = append(l, extent{v.Pointer(), v.Pointer() + uintptr(v.Cap())*v.Type().Elem().Size()})
		}
		for i := range v.Len() {
			l = extents(v.Index(i), l)
		}
	}
	return l
}

func overlap(a, b extent) bool { return a.from < b.to && b.from < a.to }

// same holds two values against each other; an empty slice is as good as none.
func same(a, b reflect.Value) bool {
	switch a.Kind() {
	case reflect.Struct:
		for i := range a.NumField() {
			if !same(a.Field(i), b.Field(i)) {
				return false
			}
		}
		return true
	case reflect.Array, reflect.Slice:
		if a.Len() != b.Len() {
			return false
		}
		for i := range a.Len() {
			if !same(a.Index(i), b.Index(i)) {
				return false
			}
		}
		return true
	}
	return a.Interface() == b.Interface()
}

// try calls a function, and looks at what the rules say.
func (m *maker) try(t *testing.T, name string, f reflect.Value) {
	t.Helper()
	var args, before []reflect.Value
	for i := range f.Type().NumIn() {
		v := m.value(f.Type().In(i))
		args, before = append(args, v), append(before, shown(v))
	}
	results := f.Call(args)
	var in, out []extent
	for i, v := range args {
		if !same(shown(v), before[i]) {
			t.Fatalf("P2: %s changes its argument %d: %v", name, i, before[i])
		}
		in = extents(v, in)
	}
	for _, v := range results {
		out = extents(v, out)
	}
	for i, a := range out {
		for _, b := range in {
			if overlap(a, b) {
				t.Fatalf("P2: %s returns memory of an argument", name)
			}
		}
		for _, b := range out[:i] {
			if overlap(a, b) {
				t.Fatalf("P2: %s returns memory twice", name)
			}
		}
	}
	for i, v := range f.Call(args) {
		if !same(v, results[i]) {
			t.Fatalf("P3: %s returns %v and %v", name, v, results[i])
		}
	}
	for _, v := range results {
		m.keep(v)
	}
}

func TestP1P2P3(t *testing.T) {
	all := functions()
	names := slices.Sorted(maps.Keys(all))
	for _, wild := range []bool{false, true} {
		for seed := range 4 {
			m := &maker{rnd: rand.New(rand.NewSource(int64(seed))), wild: wild, pool: map[reflect.Type][]reflect.Value{}}
			for range 8000 {
				name := names[m.rnd.Intn(len(names))]
				m.try(t, name, reflect.ValueOf(all[name]))
			}
		}
	}
}

// Scripts of any bytes are played to their end.
func TestP1Scripts(t *testing.T) {
	rnd := rand.New(rand.NewSource(1))
	words := strings.Fields(`register close checkout do send deliver drop twice clock sync crash reclaim lose down up read members count state values kept even up2 0 1 2 3 -1 999999999 -999999999 x y - "" "\x00" # " 00`)
	for range 300 {
		var b strings.Builder
		for range rnd.Intn(200) {
			b.WriteString(words[rnd.Intn(len(words))])
			b.WriteByte(" \n "[rnd.Intn(3)])
		}
		script := b.String()
		lines := strings.Count(script, "\n")
		if !strings.HasSuffix(script, "\n") && script != "" {
			lines++
		}
		if out := shell.Run(script); strings.Count(out, "\n") != lines {
			t.Fatalf("%q: %q", script, out)
		}
	}
}

// Every error has a word.
func TestErrors(t *testing.T) {
	seen := map[string]api.Errno{}
	for e := api.OK; e <= api.ErrGone; e++ {
		if first, ok := seen[e.Error()]; ok || e.Error() == "" {
			t.Errorf("%d and %d: %s", first, e, e)
		}
		seen[e.Error()] = e
	}
}
