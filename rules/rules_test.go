// Package rules tests the document's rules that hold everywhere, R1 to R6, on all functions of all layers.
package rules

import (
	"cmp"
	"fmt"
	"math/rand"
	"reflect"
	"slices"
	"strings"
	"testing"

	"grapevine/api"
	"grapevine/buffer"
	"grapevine/crc"
	"grapevine/cyclon"
	"grapevine/desc"
	"grapevine/digest"
	"grapevine/fair"
	"grapevine/filter"
	"grapevine/ident"
	"grapevine/mesg"
	"grapevine/model"
	"grapevine/near"
	"grapevine/net"
	"grapevine/node"
	"grapevine/outbox"
	"grapevine/peer"
	"grapevine/player"
	"grapevine/pull"
	"grapevine/pulse"
	"grapevine/push"
	"grapevine/ring"
	"grapevine/sample"
	"grapevine/schema"
	"grapevine/score"
	"grapevine/script"
	"grapevine/seen"
	"grapevine/span"
	"grapevine/stable"
	"grapevine/tape"
	"grapevine/trace"
	"grapevine/wire"
	"grapevine/world"
)

// own is all functions whose results are in memory of their own; sharing is those that may share what nobody modifies.
func own() map[string]any {
	return map[string]any{
		"wire.Put": wire.Put, "wire.Take": wire.Take, "wire.PutText": wire.PutText, "wire.TakeText": wire.TakeText, "wire.Unsigned": wire.Unsigned, "wire.Signed": wire.Signed,
		"crc.Sum": crc.Sum, "crc.More": crc.More, "crc.Seal": crc.Seal, "crc.Open": crc.Open,
		"schema.Right": schema.Right, "schema.Fits": schema.Fits, "schema.Bring": schema.Bring, "schema.Event": schema.Event, "schema.Same": schema.Same, "schema.Copy": schema.Copy,
		"span.Has": span.Has, "span.Meet": span.Meet, "span.Covers": span.Covers, "span.Hull": span.Hull, "span.Len": span.Len,
		"filter.Right": filter.Right, "filter.Normal": filter.Normal, "filter.Match": filter.Match, "filter.Meet": filter.Meet, "filter.Covers": filter.Covers, "filter.Same": filter.Same, "filter.Copy": filter.Copy,
		"score.Overlap": score.Overlap, "score.Key": score.Key,
		"ident.Right": ident.Right, "ident.Less": ident.Less, "ident.Next": ident.Next, "ident.Rising": ident.Rising, "ident.Has": ident.Has, "ident.Put": ident.Put, "ident.Drop": ident.Drop,
		"seen.Right": seen.Right, "seen.Has": seen.Has, "seen.May": seen.May, "seen.Take": seen.Take, "seen.Mark": seen.Mark,
		"desc.Same": desc.Same, "desc.Copy": desc.Copy, "desc.Right": desc.Right, "desc.Find": desc.Find, "desc.Put": desc.Put, "desc.Drop": desc.Drop, "desc.Older": desc.Older, "desc.Oldest": desc.Oldest,
		"cyclon.Pick": cyclon.Pick, "cyclon.Ask": cyclon.Ask, "cyclon.Merge": cyclon.Merge,
		"sample.Start": sample.Start, "sample.Tick": sample.Tick, "sample.Answer": sample.Answer, "sample.Admit": sample.Admit, "sample.Fill": sample.Fill,
		"near.Better": near.Better, "near.Choose": near.Choose, "near.Union": near.Union,
		"ring.Place": ring.Place, "ring.Far": ring.Far, "ring.Choose": ring.Choose, "ring.List": ring.List, "ring.Drop": ring.Drop, "ring.Older": ring.Older,
		"pulse.New": pulse.New, "pulse.Newer": pulse.Newer, "pulse.Heard": pulse.Heard, "pulse.Left": pulse.Left, "pulse.Merge": pulse.Merge, "pulse.Tick": pulse.Tick, "pulse.Up": pulse.Up,
		"buffer.Right": buffer.Right, "buffer.Same": buffer.Same, "buffer.Has": buffer.Has, "buffer.Get": buffer.Get, "buffer.Put": buffer.Put, "buffer.Evict": buffer.Evict, "buffer.Remove": buffer.Remove, "buffer.IDs": buffer.IDs,
		"push.Pick": push.Pick, "push.Less": push.Less,
		"digest.Marks": digest.Marks, "digest.Lacks": digest.Lacks, "digest.Newer": digest.Newer,
		"pull.Right": pull.Right, "pull.Has": pull.Has, "pull.Add": pull.Add, "pull.Drop": pull.Drop, "pull.Tick": pull.Tick,
		"stable.New": stable.New, "stable.Report": stable.Report, "stable.Of": stable.Of, "stable.Stable": stable.Stable, "stable.Forget": stable.Forget,
		"mesg.Right": mesg.Right, "mesg.Same": mesg.Same, "mesg.Bytes": mesg.Bytes, "mesg.Parse": mesg.Parse,
		"outbox.Put": outbox.Put, "outbox.Take": outbox.Take,
		"net.Send": net.Send, "net.Take": net.Take, "net.Lose": net.Lose, "net.Double": net.Double, "net.Bend": net.Bend, "net.Move": net.Move, "net.Same": net.Same,
		"tape.Draw": tape.Draw, "tape.Some": tape.Some,
		"peer.Right": peer.Right, "peer.New": peer.New, "peer.Start": peer.Start, "peer.Down": peer.Down, "peer.Self": peer.Self, "peer.Links": peer.Links, "peer.Fine": peer.Fine, "peer.Meet": peer.Meet, "peer.Hear": peer.Hear, "peer.Want": peer.Want, "peer.Join": peer.Join, "peer.Leave": peer.Leave, "peer.Take": peer.Take, "peer.Tick": peer.Tick,
		"node.Publish": node.Publish, "node.Accept": node.Accept, "node.Take": node.Take, "node.Tick": node.Tick,
		"model.New": model.New, "model.Do": model.Do, "model.May": model.May, "model.Owed": model.Owed, "model.Same": model.Same,
		"script.Right": script.Right, "script.Same": script.Same, "script.Bytes": script.Bytes, "script.Parse": script.Parse,
		"player.Read": player.Read, "player.Config": player.Config, "fair.Reach": fair.Reach, "fair.Bound": fair.Bound, "fair.Due": fair.Due,
	}
}

func sharing() map[string]any {
	return map[string]any{"trace.Model": trace.Model, "trace.Deeds": trace.Deeds, "trace.Follow": trace.Follow, "world.New": world.New, "world.Do": world.Do, "world.Run": world.Run, "fair.Drain": fair.Drain, "fair.Round": fair.Round}
}

// small makes most numbers small, so that things meet one another.
func number(r *rand.Rand) int64 {
	switch r.Intn(12) {
	case 0:
		return int64(r.Uint64())
	case 1:
		return []int64{-1 << 63, 1<<63 - 1, -1, 1 << 31, 1<<32 - 1, 255, 256, 65535}[r.Intn(8)]
	}
	return int64(r.Intn(5))
}

// fill sets v to anything; lists have spare capacity, which is not empty either.
func fill(r *rand.Rand, v reflect.Value, depth int) {
	switch v.Kind() {
	case reflect.Bool:
		v.SetBool(r.Intn(2) == 0)
	case reflect.Int, reflect.Int32:
		v.SetInt(number(r))
	case reflect.Uint8, reflect.Uint16, reflect.Uint32, reflect.Uint64:
		v.SetUint(uint64(number(r)))
	case reflect.String:
		words := []string{"world 2", "tick 0", "pool", "publish 0 1 1 x", "script 0d00", "", "x"}
		v.SetString(words[r.Intn(len(words))])
	case reflect.Slice:
		n := r.Intn(4)
		if depth > 3 {
			n = r.Intn(2)
		}
		all := reflect.MakeSlice(v.Type(), n+r.Intn(3), n+2)
		for i := range all.Len() {
			fill(r, all.Index(i), depth+1)
		}
		if n > 0 || r.Intn(2) == 0 {
			v.Set(all.Slice(0, n))
		}
	case reflect.Struct:
		for i := range v.NumField() {
			fill(r, v.Field(i), depth+1)
		}
		if c, ok := v.Addr().Interface().(*api.Config); ok && r.Intn(4) > 0 {
			*c = player.Config(2 + r.Intn(3))
			c.Schema = c.Schema[:1:1]
		}
		if p, ok := v.Addr().Interface().(*api.Peer); ok && r.Intn(4) > 0 {
			n := p.Node % 3
			filter, seq := p.Filter, p.Seq
			*p, _ = peer.Start(player.Config(3), peer.New(player.Config(3), n))
			p.Filter, p.Seq = filter, seq%3
		}
	}
}

// arguments makes arguments for f; of a variadic one up to two lists.
func arguments(r *rand.Rand, f reflect.Type) []reflect.Value {
	var l []reflect.Value
	for i := range f.NumIn() {
		v := reflect.New(f.In(i)).Elem()
		fill(r, v, 0)
		if f.IsVariadic() && i == f.NumIn()-1 {
			for j := range v.Len() {
				l = append(l, v.Index(j))
			}
			break
		}
		l = append(l, v)
	}
	return l
}

// whole writes all that v has, also what lies behind the elements of lists.
func whole(v reflect.Value) string {
	switch v.Kind() {
	case reflect.Slice:
		s := fmt.Sprintf("%d[", v.Len())
		for i := range v.Cap() {
			s += whole(v.Slice(0, v.Cap()).Index(i)) + ","
		}
		return s + "]"
	case reflect.Struct:
		s := "{"
		for i := range v.NumField() {
			s += whole(v.Field(i)) + ","
		}
		return s + "}"
	}
	return fmt.Sprint(v.Interface())
}

func wholeAll(l []reflect.Value) string {
	s := ""
	for _, v := range l {
		s += whole(v) + ";"
	}
	return s
}

// plain writes what v is; an empty list and none are the same.
func plain(l []reflect.Value) string {
	s := ""
	for _, v := range l {
		s += fmt.Sprintf("%v;", v.Interface())
	}
	return s
}

type part struct {
	from, to uintptr
	result   bool
}

func parts(v reflect.Value, result bool) []part {
	var l []part
	switch v.Kind() {
	case reflect.Slice:
		if v.Cap() > 0 {
			l = append(l, part{v.Pointer(), v.Pointer() + uintptr(v.Cap())*v.Type().Elem().Size(), result})
		}
		for i := range v.Len() {
			l = append(l, parts(v.Index(i), result)...)
		}
	case reflect.Struct:
		for i := range v.NumField() {
			l = append(l, parts(v.Field(i), result)...)
		}
	}
	return l
}

// shared reports whether some list of the results has memory of another list of them, or of an argument.
func shared(results, args []reflect.Value) bool {
	var l []part
	for _, v := range results {
		l = append(l, parts(v, true)...)
	}
	for _, v := range args {
		l = append(l, parts(v, false)...)
	}
	slices.SortFunc(l, func(a, b part) int { return cmp.Compare(a.from, b.from) })
	var last, lastResult uintptr
	for _, p := range l {
		if p.from < lastResult || p.result && p.from < last {
			return true
		}
		last = max(last, p.to)
		if p.result {
			lastResult = max(lastResult, p.to)
		}
	}
	return false
}

// empty reports whether v is zero, where an empty list is, too.
func empty(v reflect.Value) bool {
	switch v.Kind() {
	case reflect.Slice:
		return v.Len() == 0
	case reflect.Struct:
		for i := range v.NumField() {
			if !empty(v.Field(i)) {
				return false
			}
		}
		return true
	}
	return v.IsZero()
}

// keeps is the functions which, as their chapters say, return what they were given beside an error, or a false.
const keeps = "seen.Take desc.Put sample.Tick sample.Answer buffer.Put buffer.Evict buffer.Remove pull.Add outbox.Take net.Take net.Lose net.Double net.Bend net.Move tape.Draw peer.Start peer.Hear peer.Want peer.Leave node.Publish node.Accept model.Do world.Do fair.Drain fair.Round trace.Follow"

// try calls f, and checks the rules.
func try(t *testing.T, name string, f reflect.Value, args []reflect.Value, mayShare bool) {
	t.Helper()
	defer func() {
		if x := recover(); x != nil {
			t.Fatalf("R1: %s panics: %v\n%s", name, x, plain(args))
		}
	}()
	before := wholeAll(args)
	results := f.Call(args)
	if wholeAll(args) != before {
		t.Fatalf("R3: %s changes an argument: %s", name, before)
	}
	if !mayShare && shared(results, args) {
		t.Fatalf("R3: %s shares memory: %s -> %s", name, before, plain(results))
	}
	if again := f.Call(args); plain(again) != plain(results) {
		t.Fatalf("R4: %s: %s -> %s, and then %s", name, before, plain(results), plain(again))
	}
	if last := results[len(results)-1]; len(results) > 1 && !contains(keeps, name) {
		failed := last.Type() == reflect.TypeFor[api.Errno]() && last.Int() != 0 || last.Kind() == reflect.Bool && !last.Bool()
		for _, v := range results[:len(results)-1] {
			if failed && !empty(v) {
				t.Fatalf("R2: %s: %s -> %s", name, before, plain(results))
			}
		}
	}
}

func contains(list, name string) bool {
	return slices.Contains(strings.Fields(list), name)
}

func TestRules(t *testing.T) {
	r := rand.New(rand.NewSource(1))
	for i, functions := range []map[string]any{own(), sharing()} {
		var names []string
		for name := range functions {
			names = append(names, name)
		}
		slices.Sort(names)
		for _, name := range names {
			f := reflect.ValueOf(functions[name])
			for range 400 {
				try(t, name, f, arguments(r, f.Type()), i == 1)
			}
		}
	}
}

// Players answer whatever they are given (R1), and one that New did not make ErrNil (R5).
func TestPlayers(t *testing.T) {
	r := rand.New(rand.NewSource(2))
	p := player.New()
	for range 2000 {
		b := make([]byte, r.Intn(12))
		r.Read(b)
		p.Do(string(b))
		p.Run(string(b))
	}
	for _, q := range []*player.Player{nil, {}} {
		if text, err := q.Do("world 2"); text != "" || err != api.ErrNil {
			t.Error(text, err)
		}
	}
}
