/- Descriptors: contracts of values only. -/
import Derived.Test.YtocappiebmmpgaaZG
import Derived.Test.YtocappiebmmpgaaD09u
namespace Go.Proofs.Ytocappiebmmpgaa
open Go.RowKit

theorem put_eo (l : List De) (cap : Nat) (hl : l.length ≤ 1099511627776) (hr : Rising l) (hf : FlOk l) (d : De) (cd : Nat) (hcd : d.fl.length ≤ cd) (hdl : d.fl.length ≤ 1099511627776) (self room : Int) (o : List De) (b : Bool) (he : putP l d self room = (o, b)) : FnOK Try.prog GG 46 [.ro 4 (l.map deC)] [.s (.o 0) 4 0 l.length cap, deS d cd, .v (.int .u8 self), .v (.int .i64 room)] (fun r _ ext => ∃ cap', o.length ≤ cap' ∧ r = .tup [.s (.n 0) 4 0 o.length cap', .v (.bool b)] ∧ ext = [.row 27 4 cap' (o.map deC)]) := by
  have h := put_ok l cap hl hr hf d cd hcd hdl self room
  rw [he] at h
  exact h
theorem descs_bb (l r : List De) (c1 c2 : Nat) (hl : l.length ≤ 1099511627776) (hfl : FlOk l) (b : Bool) (hb : decide (l = r) = b) : FnOK Try.prog GG 19 [.ro 4 (l.map deC), .ro 4 (r.map deC)] [.s (.o 0) 4 0 l.length c1, .s (.o 1) 4 0 r.length c2] (fun rr _ ext => rr = .v (.bool b) ∧ ext = []) := by
  have h := descs_raw l r c1 c2 hl (l.map deC) (r.map deC) 0 0 atE_map atE_map hfl
  rw [hb] at h
  exact h
theorem copy_zz (l : List De) (cap : Nat) (hl : l.length ≤ 1099511627776) (hf : FlOk l) : FnOK Try.prog GG 39 [] [.z 4 (l.map deC) cap] (fun r _ ext => (∃ cap', l.length ≤ cap' ∧ r = .z 4 (l.map deC) cap') ∧ ext = []) :=
  FnOK.pure GG_no rfl (FnOK.of_call GG_no (copy_ok l cap hl hf).ent (call_nameL 0 (List.length_map _) rfl rfl rfl (call_ro [.n 0] (copy_ok l cap hl hf) GG_no rfl rfl rfl ⟨⟨_, rfl, rfl, rfl⟩, trivial⟩ (by
    rintro r bs' ext ⟨c, hc, rfl, rfl⟩
    exact ⟨_, _, frz_row (b := 1) rfl (List.length_map _).symm, rfl, rfl, fun _ => rfl, c, hc, rfl⟩))))
theorem few_zz (l : List De) (cap : Nat) (b : Bool) (hl : l.length ≤ 9223372036854775807) (hb : (l.all (fun d => decide (d.fl.length ≤ 8)) && decide (l.length ≤ 20)) = b) : FnOK Try.prog GG 8 [] [.z 4 (l.map deC) cap] (fun r _ ext => (r = .v (.bool b)) ∧ ext = []) :=
  FnOK.pure GG_no rfl (FnOK.of_call GG_no (few_b l cap b hl hb).ent (call_nameL 0 (List.length_map _) rfl rfl rfl (call_ro [.n 0] (few_b l cap b hl hb) GG_no rfl rfl rfl ⟨⟨_, rfl, rfl, rfl⟩, trivial⟩ (by
    rintro r bs' ext ⟨rfl, rfl⟩
    exact ⟨_, _, FrzV.refl _ _, rfl, rfl, fun _ => rfl, rfl⟩))))
theorem find_zz (l : List De) (cap : Nat) (x : Int) (hl : l.length ≤ 1099511627776) (hr : Rising l) (z : Int) (hz : findZ x l = z) : FnOK Try.prog GG 50 [] [.z 4 (l.map deC) cap, .v (.int .u8 x)] (fun r _ ext => (r = .v (.int .i64 z)) ∧ ext = []) :=
  FnOK.pure GG_no rfl (FnOK.of_call GG_no (find_z l cap x hl hr z hz).ent (call_nameL 0 (List.length_map _) rfl rfl rfl (call_ro [.n 0] (find_z l cap x hl hr z hz) GG_no rfl rfl rfl ⟨⟨_, rfl, rfl, rfl⟩, trivial⟩ (by
    rintro r bs' ext ⟨rfl, rfl⟩
    exact ⟨_, _, FrzV.refl _ _, rfl, rfl, fun _ => rfl, rfl⟩))))
theorem older_zz (l : List De) (cap : Nat) (hl : l.length ≤ 1099511627776) (hf : FlOk l) (hb : ∀ y ∈ l, 0 ≤ y.age ∧ y.age ≤ 255) : FnOK Try.prog GG 45 [] [.z 4 (l.map deC) cap] (fun r _ ext => (∃ cap', l.length ≤ cap' ∧ r = .z 4 ((l.map older).map deC) cap') ∧ ext = []) :=
  FnOK.pure GG_no rfl (FnOK.of_call GG_no (older_ok l cap hl hf hb).ent (call_nameL 0 (List.length_map _) rfl rfl rfl (call_ro [.n 0] (older_ok l cap hl hf hb) GG_no rfl rfl rfl ⟨⟨_, rfl, rfl, rfl⟩, trivial⟩ (by
    rintro r bs' ext ⟨c, hc, rfl, rfl⟩
    exact ⟨_, _, frz_row (b := 1) rfl (by simp only [List.length_map]), rfl, rfl, fun _ => rfl, c, hc, rfl⟩))))
theorem put_zz (l : List De) (cap : Nat) (hl : l.length ≤ 1099511627776) (hr : Rising l) (hf : FlOk l) (d : De) (cd : Nat) (hcd : d.fl.length ≤ cd) (hdl : d.fl.length ≤ 1099511627776) (self room : Int) (o : List De) (b : Bool) (he : putP l d self room = (o, b)) : FnOK Try.prog GG 46 [] [.z 4 (l.map deC) cap, deS d cd, .v (.int .u8 self), .v (.int .i64 room)] (fun r _ ext => (∃ cap', o.length ≤ cap' ∧ r = .tup [.z 4 (o.map deC) cap', .v (.bool b)]) ∧ ext = []) :=
  FnOK.pure GG_no rfl (FnOK.of_call GG_no (put_eo l cap hl hr hf d cd hcd hdl self room o b he).ent (call_nameL 0 (List.length_map _) rfl rfl rfl (call_ro [.n 0] (put_eo l cap hl hr hf d cd hcd hdl self room o b he) GG_no rfl rfl rfl ⟨⟨_, rfl, rfl, rfl⟩, trivial⟩ (by
    rintro r bs' ext ⟨c, hc, rfl, rfl⟩
    exact ⟨_, _, frz_tup 0 rfl (frz_row (b := 1) rfl (List.length_map _).symm) rfl, rfl, rfl, fun _ => rfl, c, hc, rfl⟩))))
theorem descs_zz (l r : List De) (c1 c2 : Nat) (hl : l.length ≤ 1099511627776) (hfl : FlOk l) (b : Bool) (hb : decide (l = r) = b) : FnOK Try.prog GG 19 [] [.z 4 (l.map deC) c1, .z 4 (r.map deC) c2] (fun rr _ ext => (rr = .v (.bool b)) ∧ ext = []) :=
  FnOK.pure GG_no rfl (FnOK.of_call GG_no (descs_bb l r c1 c2 hl hfl b hb).ent (call_nameL 0 (List.length_map _) rfl rfl rfl (call_nameL 1 (List.length_map _) rfl rfl rfl (call_ro [.n 0, .n 1] (descs_bb l r c1 c2 hl hfl b hb) GG_no rfl rfl rfl ⟨⟨_, rfl, rfl, rfl⟩, ⟨_, rfl, rfl, rfl⟩, trivial⟩ (by
    rintro r bs' ext ⟨rfl, rfl⟩
    exact ⟨_, _, FrzV.refl _ _, rfl, rfl, fun _ => rfl, rfl⟩)))))
end Go.Proofs.Ytocappiebmmpgaa
