/- The walk of drop. Conditions: those that each row names. -/
import Derived.Test.YtbpelhfbgjplbaaJK
namespace Go.Proofs.Ytbpelhfbgjplbaa.Ca
open Go.ChangeShapes Go.WideShapes Go.ChangeAt Go.RowKit
open N (Kept)
open Q (kept_cell Kv Vn Km m_get m_put m_del)
variable {E : Nat → Prop} {X : List En}

theorem Lo.c0 {w : World} {e : Nat} {es : List En} {x : En} (h : Lo X w e es x) : w.cell? ⟨x.b, 0, none⟩ = some (.string x.k) := by
  obtain ⟨G, h1, h2, _, h3, _⟩ := h.out
  obtain ⟨u, v, e⟩ := h3.out
  rw [cell_of_row w _ 0 _ _ _ e]; rfl
theorem Hs.first {w : World} {e : Nat} {x : En} {C : List En} (h : Hs X w e (x :: C)) : w.cell? ⟨e, 4, none⟩ = some (.pointer (some ⟨x.b, 0, none⟩)) := by
  obtain ⟨G, h1, h2, _⟩ := h.out
  obtain ⟨y, hy⟩ := h2.fin
  have := h2.ring.first (x := x.b) (L := bl C)
  rw [nx_eq hy] at this
  rw [(h1.c hy).2.2.2.2, this]

/-- One is gone. -/
theorem CM.gone {w w' : World} {B p n : Nat} {q : Cc} {C : List En} {x : En} {f : ByteArray → Option ByteArray} (h : CM E X w B p q (x :: C) n f) (hd : x.d = false) (lo : Lo X w' q.e C x) (fi : Fi B w w') :
    (w'.cell? ⟨p, 2, none⟩ = some (.map (some q.mh)) ∧ w'.cell? ⟨x.b, 0, none⟩ = some (.string x.k)) ∧ ∃ w2, (∀ ty, (Builtin.delete_ #[57, 9] ty #[.map (some q.mh), .string x.k]).run Try.prog w'.drew = .ok (.tuple #[]) w2) ∧
      (CM E X w2 B p q C n f ∧ Vc E B w w2) ∧ (w2.cell? ⟨p, 2, none⟩ = some (.map (some q.mh)) ∧ w2.cell? ⟨x.b, 0, none⟩ = some (.string x.k)) := by
  have cb := h.cb.ky fi.kC
  refine ⟨⟨cb.c.2.2.1, lo.c0⟩, ?_⟩
  have kd : Kept w' w'.drew := (Kept.refl _).drew
  have m1 := (h.hm.ky fi.kM).ky (.kept kd)
  obtain ⟨w2, r, m2, o⟩ := m1.drop x.k (h.sz x (by simp)) 0
  have hnk : Nk (x :: C) := h.kn
  have lo2 := (lo.ky (.kept kd)).ky (o.ky m1 nI)
  have cb2 := (cb.ky (.kept kd)).ky (o.ky m1 nC)
  refine ⟨w2, fun ty => r, ⟨⟨cb2, lo2.hs, ?_, ?_, Kv.ky (Kv.ky (Kv.ky h.kv fi.kV) (.kept kd)) (o.ky m1 nV), hnk.tail.2, fun z hz => h.sz z (by simp [hz]), h.ne, h.bd.sub fun z hz => ⟨z, by simp [hz], rfl⟩, h.le, ?_⟩, ?_⟩, cb2.c.2.2.1, lo2.c0⟩
  · have e1 : C.length = if (hmap (x :: C) x.k).isSome then (x :: C).length - 1 else (x :: C).length := by
      rw [hmap_head, if_pos rfl]; simp
    rw [e1]
    exact m2.congr fun k => go_hmap hnk k
  · rw [← add_cnt C hd]
    exact (((h.cm.ky fi.kM).ky (.kept kd)).same (o.block _ h.ne.symm)).congr fun k => (add_cmap C hd k).symm
  · rw [o.size]; exact Nat.le_trans h.base (Nat.le_trans fi.low.size kd.size)
  · exact (fi.vc.trans (Vc.of kd (Nat.le_trans h.base fi.low.size))).trans (o.vc m1 h.le.2.1)

set_option maxRecDepth 100000 in
set_option maxHeartbeats 4000000 in
theorem drop_clean {w : World} {B p n : Nat} {q : Cc} {C : List En} {x : En} {f : ByteArray → Option ByteArray} (h : CM E X w B p q (x :: C) n f) (hd : x.d = false) :
    Calls Try.prog 32 #[.pointer (some ⟨p, 0, none⟩)] w fun r w' => r = .returned (.int .i64 0) ∧ CM E X w' B p q C n f ∧ Vc E B w w' := by
  obtain ⟨_, _, _, c3, c4, _⟩ := h.cb.c
  have e4 := h.hs.first
  have b0 := (h.hs.c (x := x) (by simp)).1
  have lk0 := (h.cm.ky (.kept (Kept.refl w).drew)).look x.k (h.sz x (by simp))
  rw [cmap_head, if_neg (by simp [hd]), cmap_absent (Nk.tail h.kn).1] at lk0
  have lk : (Instr.lookup 57 (.map (some q.mc)) (.string x.k) false).run Try.prog w.drew = .ok (.pointer none) w.drew := lk0
  clear lk0
  have k0 := h.kept (Kept.refl w).drew
  have l1 := leave_calls (A := []) k0.hs k0.bd
  have HG : Hid (∀ w', Lo X w' q.e C x → Fi B w.drew w' → _) := fun w' lo fi => k0.gone hd lo fi
  have HV : Hid (∀ w', Vc E B w.drew w' → Vc E B w w') := fun w' v => (Vc.of (Kept.refl w).drew h.base).trans v
  clear k0 h hd
  go_enter Try.func32, Try.ntmps32
  go_wp2_with fail
  go_region_held3 (fun W => W.cell? ⟨p, 3, none⟩ = some (.map (some q.mc)) ∧ W.cell? ⟨x.b, 0, none⟩ = some (.string x.k)) (first | exact ⟨c3, b0⟩ | go_keep) (first | fail)
  all_goals go_wp2_with (go_at_call 34; (with_reducible refine l1.mono ?_); rintro r w1 ⟨rfl, lo, fi⟩; obtain ⟨⟨d2, d0⟩, w2, r2, M2, D2⟩ := HG.out w1 lo fi; have F2 : Hid (_ ∧ _) := M2; have S2 : Hid (_ ∧ _) := D2; clear lo fi l1 HG M2 D2 lk c3 c4 e4 b0)
  all_goals go_region_held3 (fun W => W.cell? ⟨p, 2, none⟩ = some (.map (some q.mh)) ∧ W.cell? ⟨x.b, 0, none⟩ = some (.string x.k)) (first | exact ⟨d2, d0⟩ | exact S2.out | go_keep) (first | fail)
  all_goals go_wp2
  all_goals go_ret
  all_goals exact ⟨rfl, F2.out.1, HV.out _ F2.out.2⟩

set_option maxRecDepth 100000 in
set_option maxHeartbeats 4000000 in
theorem drop_dirty {w : World} {B p n : Nat} {q : Cc} {C : List En} {x : En} {f : ByteArray → Option ByteArray} (h : CM E X w B p q (x :: C) n f) (hn : n ≤ 100000) (hd : x.d = true) :
    Calls Try.prog 32 #[.pointer (some ⟨p, 0, none⟩)] w fun r w' => r = .returned (.int .i64 0) ∧ (∃ n', n' ≤ n + 1 ∧ CM E X w' B p { q with x := IntKind.i64.wrap (q.x + 1) } C n' (wrt f x)) ∧ Vc E B w w' := by
  obtain ⟨_, _, _, c3, c4, _⟩ := h.cb.c
  have e4 := h.hs.first
  have b0 := (h.hs.c (x := x) (by simp)).1
  have lk0 := (h.cm.ky (.kept (Kept.refl w).drew)).look x.k (h.sz x (by simp))
  rw [cmap_head, if_pos ⟨rfl, hd⟩] at lk0
  have lk : (Instr.lookup 57 (.map (some q.mc)) (.string x.k) false).run Try.prog w.drew = .ok (.pointer (some ⟨x.b, 0, none⟩)) w.drew := lk0
  clear lk0
  have k0 := h.kept (Kept.refl w).drew
  have l0 := write_walk (A := []) k0 hn
  have HV : Hid (∀ w', Vc E B w.drew w' → Vc E B w w') := fun w' v => (Vc.of (Kept.refl w).drew h.base).trans v
  generalize IntKind.i64.wrap (q.x + 1) = z at *
  clear k0 h hd
  go_enter Try.func32, Try.ntmps32
  go_wp2_with fail
  go_region_held3 (fun W => W.cell? ⟨p, 3, none⟩ = some (.map (some q.mc)) ∧ W.cell? ⟨x.b, 0, none⟩ = some (.string x.k)) (first | exact ⟨c3, b0⟩ | go_keep) (first | fail)
  all_goals go_wp2_with (first
    | (go_at_call 25; (with_reducible refine l0.mono ?_); rintro r w0 ⟨rfl, ⟨n', hn', M0⟩, V0⟩; have HN : Hid (n' ≤ n + 1) := hn'; have L1 := leave_calls (A := []) M0.hs M0.bd; have l1 : Calls Try.prog 34 #[.pointer (some ⟨x.b, 0, none⟩)] w0 _ := L1; have HG : Hid (∀ w', Lo X w' q.e C x.done → Fi B w0 w' → _) := (fun w' lo fi => M0.gone rfl lo fi); have H0 : Hid (Vc E B w.drew w0) := V0; clear l0 M0 V0 hn' L1)
    | (go_at_call 34; (with_reducible refine l1.mono ?_); rintro r w1 ⟨rfl, lo, fi⟩; obtain ⟨⟨d2, d0⟩, w2, r2, M2, D2⟩ := HG.out w1 lo fi; have F2 : Hid (_ ∧ _) := M2; have S2 : Hid (_ ∧ _) := D2; clear lo fi l1 HG M2 D2 lk c3 c4 e4 b0))
  all_goals have d0' : w1.cell? ⟨x.b, 0, none⟩ = some (.string x.k) := d0
  all_goals have r2' : ∀ ty, (Builtin.delete_ #[57, 9] ty #[.map (some q.mh), .string x.k]).run Try.prog w1.drew = .ok (.tuple #[]) w2 := r2
  all_goals clear d0 r2
  all_goals go_region_held3 (fun W => W.cell? ⟨p, 2, none⟩ = some (.map (some q.mh)) ∧ W.cell? ⟨x.b, 0, none⟩ = some (.string x.k)) (first | exact ⟨d2, d0'⟩ | exact S2.out | go_keep) (first | fail)
  all_goals go_wp2
  all_goals go_ret
  all_goals exact ⟨rfl, ⟨n', HN.out, F2.out.1⟩, HV.out _ (H0.out.trans F2.out.2)⟩
end Go.Proofs.Ytbpelhfbgjplbaa.Ca
