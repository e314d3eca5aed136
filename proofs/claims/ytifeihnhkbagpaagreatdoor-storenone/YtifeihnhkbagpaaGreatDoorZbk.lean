/- Joined: CB CC. What is proved of the functions beneath StoreNone. Conditions: those that each row names. -/
import Derived.Test.YtifeihnhkbagpaaGreatDoorZbg
import Derived.Deep.QuietTactic
import Derived.BigQuiet
namespace Go.Proofs.YtifeihnhkbagpaaGreatDoor.T
open Go.ChangeShapes Go.WideShapes Go.ChangeAt Go.RowKit
open B (Pm Mk En R plc plc_le)
open N (Nd NV Rw Rx Kept kcl vcl icl Vl C4 Up sl fnd isk)

structure St6 (w : World) (b : Nat) (v0 v1 v2 v3 : Value) (bl : ByteArray) (last : Bool) : Prop where
  out : w.heap[b]? = some (.cells #[v0, v1, v2, v3, .string bl, .bool last] 175)
theorem St6.kept {w w' : World} {b : Nat} {v0 v1 v2 v3 : Value} {bl : ByteArray} {last : Bool} (h : St6 w b v0 v1 v2 v3 bl last) (k : Kept w w') : St6 w' b v0 v1 v2 v3 bl last := ⟨k.block h.out⟩
open B (fm con Wf)
open N (Nw)

structure Rd (M : Pm) (root : Int) (l : List En) (Z : List Mk) : Prop where
  out : (root = -1 ∧ l = [] ∧ Z = []) ∨ ∃ d n : Nat, root = (n : Int) ∧ d ≤ 10 ∧ Wf M d n ∧ Z.Pairwise R ∧ fm M d n = Z ∧ con Z = l
theorem size175 : (Tryz.prog.info? 175).map (·.size) = some 6 := by kernel_rfl
theorem nv_nil (w : World) : NV w false none 0 0 none 0 0 none 0 0 ⟨false, [], [], []⟩ :=
  ⟨rfl, ⟨rfl, Nat.le_refl _, Nat.zero_le _, .inl ⟨rfl, rfl⟩⟩, ⟨rfl, Nat.le_refl _, Nat.zero_le _, .inl ⟨rfl, rfl⟩⟩, ⟨rfl, Nat.le_refl _, Nat.zero_le _, .inl ⟨rfl, rfl⟩⟩, ⟨(fun b off ph h => by cases h), fun _ => rfl⟩, ⟨(fun b off ph h => by cases h), fun _ => rfl⟩, ⟨(fun b off ph h => by cases h), fun _ => rfl⟩⟩

def SkPost (l : List En) (Z : List Mk) (key : ByteArray) (w : World) (e : Ending) (w' : World) : Prop :=
  ∃ lf kp nk kc vp nv vc ip ni ic x bl last, e = .returned (.tuple #[.agg #[.bool lf, .slice kp nk kc, .slice vp nv vc, .slice ip ni ic, .string bl, .bool last], .int .i64 0]) ∧ NV w' lf kp nk kc vp nv vc ip ni ic x ∧ (N.Up x.ks ∧ x.ks.length ≤ 120) ∧ Sek l Z key x bl last ∧ Kept w w'

set_option maxRecDepth 100000 in
set_option maxHeartbeats 1000000 in
theorem seek_nil {w : World} {t p : Nat} {key : ByteArray} (hT : TAt w t p (-1)) : Calls Tryz.prog 98 #[.pointer (some ⟨t, 0, none⟩), .string key] w (SkPost [] [] key w) := by
  have k1 : Kept w (w.alloc (.cells #[.bool false, .slice none 0 0, .slice none 0 0, .slice none 0 0, .string ⟨#[]⟩, .bool false] 175)) := (Kept.refl w).alloc _
  have k2 : Kept w ((w.alloc (.cells #[.bool false, .slice none 0 0, .slice none 0 0, .slice none 0 0, .string ⟨#[]⟩, .bool false] 175)).alloc (.cells #[.bool false, .slice none 0 0, .slice none 0 0, .slice none 0 0, .string ⟨#[]⟩, .bool true] 175)) := k1.alloc _
  have R0 : (w.alloc (.cells #[.bool false, .slice none 0 0, .slice none 0 0, .slice none 0 0, .string ⟨#[]⟩, .bool false] 175)).heap[w.heap.size]? = some (.cells #[.bool false, .slice none 0 0, .slice none 0 0, .slice none 0 0, .string ⟨#[]⟩, .bool false] 175) := heap_alloc_new w _
  have R1 := ((Kept.refl _).alloc (.cells #[.bool false, .slice none 0 0, .slice none 0 0, .slice none 0 0, .string ⟨#[]⟩, .bool true] 175)).block R0
  obtain ⟨⟨a0, f0⟩, ⟨a1, f1⟩, ⟨a2, f2⟩, ⟨a3, f3⟩, ⟨a4, f4⟩, ⟨a5, f5⟩, hfin⟩ := ready6 R1 (.bool false) (.slice none 0 0) (.slice none 0 0) (.slice none 0 0) (.string ⟨#[]⟩) (.bool true)
  have fr := root_walk (hT.kept k2)
  have HK : Hid (Kept w ((w.alloc (.cells #[.bool false, .slice none 0 0, .slice none 0 0, .slice none 0 0, .string ⟨#[]⟩, .bool false] 175)).alloc (.cells #[.bool false, .slice none 0 0, .slice none 0 0, .slice none 0 0, .string ⟨#[]⟩, .bool true] 175))) := k2
  clear hT k1 R0 R1
  go_enter Tryz.func98, Tryz.ntmps98
  go_wp2_with (go_at_call 36; (with_reducible refine fr.mono ?_); rintro e w1 ⟨rfl, hw1⟩; rw [hw1]; clear hw1)
  have ka : Kept w (w.alloc (.cells #[.bool false, .slice none 0 0, .slice none 0 0, .slice none 0 0, .string ⟨#[]⟩, .bool true] 175)) := (Kept.refl w).alloc _
  have q2 := ka.alloc (.cells #[.bool false, .slice none 0 0, .slice none 0 0, .slice none 0 0, .string ⟨#[]⟩, .bool true] 175)
  have hf2 := ((Kept.refl _).alloc (.cells #[.bool false, .slice none 0 0, .slice none 0 0, .slice none 0 0, .string ⟨#[]⟩, .bool true] 175)).block (heap_alloc_new w (.cells #[.bool false, .slice none 0 0, .slice none 0 0, .slice none 0 0, .string ⟨#[]⟩, .bool true] 175))
  refine bodyPost_ret (v := .tuple #[.agg #[.bool false, .slice none 0 0, .slice none 0 0, .slice none 0 0, .string ⟨#[]⟩, .bool true], .int .i64 0]) ?_ rfl ⟨_, _, _, _, _, _, _, _, _, _, _, _, _, rfl, nv_nil _, ⟨List.Pairwise.nil, Nat.zero_le _⟩, ⟨.inl ⟨rfl, rfl⟩, (fun h => by cases h), rfl⟩, q2⟩
  exact N.results_two (p := 4) (u := 5) (ty := 175) rfl _ _ w.heap.size 175 #[.bool false, .slice none 0 0, .slice none 0 0, .slice none 0 0, .string ⟨#[]⟩, .bool true] (0, 0) _ rfl hf2 Tryz.underlying175 rfl size175

end Go.Proofs.YtifeihnhkbagpaaGreatDoor.T