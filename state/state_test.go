package state_test

import (
	"fmt"
	"testing"

	"grapevine/api"
	"grapevine/stable"
	"grapevine/state"
)

// full is a peer that has something of everything.
func full() api.Peer {
	d := func() api.Desc { return api.Desc{Node: 1, Inc: 2, Age: 3, Filter: api.Filter{{From: 4, To: 5}}} }
	return api.Peer{
		Node: 2, Inc: 3, Up: true, Filter: api.Filter{{From: 1, To: 2}}, View: []api.Desc{d()}, Near: []api.Desc{d()},
		Ring: api.Ring{HasSucc: true, HasPred: true, Succ: d(), Pred: d()}, Wait: api.Wait{Some: true, Sent: []api.Desc{d()}},
		Table: []api.Member{{Inc: 1, State: api.MemAlive}, {}, {Inc: 3, State: api.MemAlive}}, Count: 4, Heard: []api.Mark{{Node: 1}}, Seq: 5, Rows: []api.Row{{Inc: 1}},
		Reports: api.Reports{{{Node: 0, Inc: 1, Seq: 1}}}, Buffer: api.Buffer{Room: 6, Events: []api.Event{{ID: api.ID{Seq: 1}, Vals: []int32{7}, Data: []byte{8}}}},
		Pulls: []api.Ask{{Left: 1}}, Passed: 9, Evicted: 10, Collected: 11,
	}
}

func TestCopy(t *testing.T) {
	p := full()
	q := state.Copy(p)
	want := fmt.Sprint(p)
	if fmt.Sprint(q) != want {
		t.Error(q)
	}
	for _, l := range [][]api.Desc{q.View, q.Near, q.Wait.Sent, {q.Ring.Succ, q.Ring.Pred}} {
		for i := range l {
			l[i].Filter[0].From = 99
			l[i].Node = 99
		}
	}
	q.Filter[0].From, q.Table[0].Inc, q.Heard[0].Node, q.Rows[0].Inc, q.Reports[0][0].Seq, q.Pulls[0].Left = 99, 99, 99, 99, 99, 99
	q.Buffer.Events[0].Vals[0], q.Buffer.Events[0].Data[0], q.Buffer.Events[0].ID.Seq = 99, 99, 99
	if fmt.Sprint(p) != want {
		t.Error("shared", p)
	}
}

func TestLearn(t *testing.T) {
	p := full()
	p.Reports = stable.New(3)
	for member := range uint8(3) {
		p.Reports = stable.Report(p.Reports, member, []api.Mark{{Node: 0, Inc: 1, Seq: 1}})
	}
	q := state.Learn(p, []api.Member{{Inc: 1, State: api.MemLeft}, {Inc: 7, State: api.MemAlive}, {Inc: 9, State: api.MemAlive}})
	if fmt.Sprint(q.Table) != fmt.Sprint([]api.Member{{Inc: 1, State: api.MemLeft}, {Inc: 7, State: api.MemAlive}, {Inc: 3, State: api.MemAlive}}) {
		t.Error(q.Table)
	}
	if stable.Of(q.Reports, 0, 0).Seq != 1 || stable.Of(q.Reports, 1, 0).Seq != 0 || stable.Of(q.Reports, 2, 0).Seq != 1 {
		t.Error("only what a new incarnation did not report is forgotten", q.Reports)
	}
}

func TestMessage(t *testing.T) {
	want := api.Message{Kind: api.KindBeat, From: 2, Inc: 3, To: 7}
	if got := state.Message(full(), api.KindBeat, 7); fmt.Sprint(got) != fmt.Sprint(want) {
		t.Error(got)
	}
}
