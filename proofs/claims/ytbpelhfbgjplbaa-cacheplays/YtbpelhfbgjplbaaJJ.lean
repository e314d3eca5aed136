/- The walk of write. Conditions: those that each row names. -/
import Derived.Test.YtbpelhfbgjplbaaJI
namespace Go.Proofs.Ytbpelhfbgjplbaa.Ca
open Go.ChangeShapes Go.WideShapes Go.ChangeAt Go.RowKit
open N (Kept)
open Q (kept_cell Kv Vn Km m_get m_put m_del)
variable {E : Nat → Prop} {X : List En}

/-- What it costs turns. -/
theorem CM.cost {w w' : World} {B p n : Nat} {q : Cc} {es : List En} {f : ByteArray → Option ByteArray} (h : CM E X w B p q es n f) {a b : Int} (cb : CB w' p { q with r := a, x := b }) (c : Cf B p w w') : CM E X w' B p { q with r := a, x := b } es n f :=
  ⟨cb, h.hs.ky (c.ky cI), h.hm.ky (c.ky cM), h.cm.ky (c.ky cM), Kv.ky h.kv (c.ky cV), h.kn, h.sz, h.ne, h.bd, h.le, Nat.le_trans h.base c.low.size⟩
/-- What lies below turns. -/
theorem CM.vn {w w' : World} {B p n n' : Nat} {q : Cc} {es : List En} {f g : ByteArray → Option ByteArray} (h : CM E X w B p q es n f) (v : Vn E B w w') (kv : Kv E w' B q.b n' g) : CM E X w' B p q es n' g :=
  ⟨h.cb.ky (Vn.kC v), h.hs.ky (Vn.kI v), h.hm.ky (Vn.kM v), h.cm.ky (Vn.kM v), kv, h.kn, h.sz, h.ne, h.bd, h.le, Nat.le_trans h.base v.size⟩
/-- One is no more to be written. -/
def En.done (x : En) : En := { x with d := false }
theorem CM.clean {w : World} {B p n : Nat} {q : Cc} {A C : List En} {x : En} {f : ByteArray → Option ByteArray} (h : CM E X w B p q (A ++ x :: C) n f) :
    ∃ w', (∀ ty, (Builtin.delete_ #[57, 9] ty #[.map (some q.mc), .string x.k]).run Try.prog w = .ok (.tuple #[]) w') ∧ CM E X w' B p q (A ++ x.done :: C) n f ∧ Vc E B w w' := by
  have hx : x ∈ A ++ x :: C := by simp
  obtain ⟨w', r, m, o⟩ := h.cm.drop x.k (h.sz x hx) 0
  have hp1 := perm_head A C x
  have hp2 := perm_head A C x.done
  have hnk : Nk (x :: (A ++ C)) := Nk.perm h.kn hp1
  have hnky : Nk (x.done :: (A ++ C)) := by
    unfold Nk at hnk ⊢
    exact hnk
  have hcm := h.cm
  refine ⟨w', fun ty => r, ⟨h.cb.ky (o.ky hcm nC), ?_, ?_, ?_, Kv.ky h.kv (o.ky hcm nV), Nk.perm hnky hp2.symm, ?_, h.ne, ?_, h.le, by rw [o.size]; exact h.base⟩, o.vc hcm h.le.2.2⟩
  · obtain ⟨G, h1, h2, hX⟩ := (h.hs.ky (o.ky hcm nI)).out
    refine ⟨G, h1, ⟨by rw [bl_mid A C (x := x) (y := x.done) rfl]; exact h2.ring, h2.fin, fun v hv => ?_⟩, hX⟩
    rcases List.mem_append.1 hv with hv | hv
    · exact h2.at' v (by simp [hv])
    · rcases List.mem_cons.1 hv with rfl | hv
      · exact ⟨(h2.at' x hx).out⟩
      · exact h2.at' v (by simp [hv])
  · have e1 : (A ++ x.done :: C).length = (A ++ x :: C).length := by simp
    rw [e1]
    refine (h.hm.same (o.block _ h.ne)).congr fun k => ?_
    rw [← hmap_perm (Nk.perm hnky hp2.symm) hp2, chg_hmap x x.done _ rfl rfl, hmap_perm h.kn hp1]
  · have e1 : cnt (A ++ x.done :: C) = if (cmap (A ++ x :: C) x.k).isSome then cnt (A ++ x :: C) - 1 else cnt (A ++ x :: C) := by
      rw [← cnt_perm hp2, wr_cnt (y := x.done) hnk rfl, ← cmap_perm h.kn hp1, ← cnt_perm hp1]
    rw [e1]
    refine m.congr fun k => ?_
    rw [← cmap_perm (Nk.perm hnky hp2.symm) hp2, wr_cmap (y := x.done) hnk rfl rfl]
    unfold delM
    rw [cmap_perm h.kn hp1]
  · intro z hz
    rcases List.mem_append.1 hz with hz | hz
    · exact h.sz z (by simp [hz])
    · rcases List.mem_cons.1 hz with rfl | hz
      · exact h.sz x hx
      · exact h.sz z (by simp [hz])
  · refine h.bd.sub fun z hz => ?_
    rcases List.mem_append.1 hz with hz | hz
    · exact ⟨z, by simp [hz], rfl⟩
    · rcases List.mem_cons.1 hz with rfl | hz
      · exact ⟨x, hx, rfl⟩
      · exact ⟨z, by simp [hz], rfl⟩

/-- What lies below behind one is written. -/
def wrt (f : ByteArray → Option ByteArray) (x : En) : ByteArray → Option ByteArray := if x.i then Q.put f x.k x.t else Q.del f x.k

/-- What a walk of write needs of a world. -/
structure Wf (w : World) (p kb mc b : Nat) (k t : ByteArray) : Prop where
  out : w.cell? ⟨p, 0, none⟩ = some (.iface 23 (.pointer (some ⟨kb, 0, none⟩))) ∧ w.cell? ⟨p, 3, none⟩ = some (.map (some mc)) ∧ w.cell? ⟨b, 0, none⟩ = some (.string k) ∧ w.cell? ⟨b, 1, none⟩ = some (.string t)
theorem CM.wf {w : World} {B p n : Nat} {q : Cc} {es : List En} {x : En} {f : ByteArray → Option ByteArray} (h : CM E X w B p q es n f) (hx : x ∈ es) : Wf w p q.b q.mc x.b x.k x.t := ⟨h.cb.c.1, h.cb.c.2.2.2.1, (h.hs.c hx).1, (h.hs.c hx).2.1⟩

set_option maxRecDepth 100000 in
set_option maxHeartbeats 4000000 in
theorem write_put {w : World} {B p n : Nat} {q : Cc} {A C : List En} {x : En} {f : ByteArray → Option ByteArray} (h : CM E X w B p q (A ++ x :: C) n f) (hn : n ≤ 100000) (hi : x.i = true) :
    Calls Try.prog 25 #[.pointer (some ⟨p, 0, none⟩), .pointer (some ⟨x.b, 0, none⟩)] w fun r w' => r = .returned (.int .i64 0) ∧ (∃ n', n' ≤ n + 1 ∧ CM E X w' B p { q with x := IntKind.i64.wrap (q.x + 1) } (A ++ x.done :: C) n' (wrt f x)) ∧ Vc E B w w' := by
  have hx : x ∈ A ++ x :: C := by simp
  obtain ⟨z, hz⟩ : ∃ z, IntKind.i64.wrap (q.x + 1) = z := ⟨_, rfl⟩
  rw [hz]
  obtain ⟨_, _, _, _, _, _, c6⟩ := h.cb.c
  have f6 := h.cb.f 6
  obtain ⟨_, _, b2, _⟩ := h.hs.c hx
  rw [hi] at b2
  have hw : wrt f x = Q.put f x.k x.t := by unfold wrt; rw [hi]; rfl
  rw [hw]
  have H1 : Hid (∀ W, W = w.setCell ⟨p, 6, none⟩ (.int .i64 z) → Wf W p q.b q.mc x.b x.k x.t ∧
      Calls Try.prog 69 #[.pointer (some ⟨q.b, 0, none⟩), .string x.k, .string x.t] W.drew (fun r w2 => r = .returned (.int .i64 0) ∧ ((∃ n', n' ≤ n + 1 ∧ CM E X w2 B p { q with x := z } (A ++ x :: C) n' (Q.put f x.k x.t)) ∧ Vc E B w w2))) := by
    intro W hW
    subst hW
    obtain ⟨g1, g2⟩ := h.cb.set 6 (.int .i64 z) (q' := { q with r := q.r, x := z }) rfl h.le.1
    have h1 := h.cost g1 g2
    have h2 := h1.kept (Kept.refl _).drew
    refine ⟨h1.wf hx, ?_⟩
    refine (Q.put_walk h2.kv hn h2.base x.k x.t).mono ?_
    rintro r w2 ⟨rfl, ⟨n', hn', kv⟩, v⟩
    exact ⟨rfl, ⟨n', hn', h2.vn v kv⟩, (g2.vc.trans (Vc.of (Kept.refl _).drew h1.base)).trans (Vn.vc v)⟩
  have mp := fun w => m_put w q.b
  clear h hw hi hx
  go_enter Try.func25, Try.ntmps25
  go_wp2_with fail
  generalize hW : w.setCell ⟨p, 6, none⟩ (.int .i64 z) = W1
  obtain ⟨⟨d0, d3, e0, e1⟩, hp⟩ := H1.out W1 hW.symm
  clear hW H1 c6 f6 b2
  go_region_held3 (fun W => W.cell? ⟨p, 0, none⟩ = some (.iface 23 (.pointer (some ⟨q.b, 0, none⟩))) ∧ W.cell? ⟨x.b, 0, none⟩ = some (.string x.k) ∧ W.cell? ⟨x.b, 1, none⟩ = some (.string x.t)) (first | exact ⟨d0, e0, e1⟩ | exact ⟨S2.out.out.1, S2.out.out.2.2.1, S2.out.out.2.2.2⟩ | go_keep) (first
    | (go_at_call 69; (with_reducible refine hp.mono ?_); rintro r w2 ⟨rfl, P2⟩; have F2 : Hid (_ ∧ _) := P2; have S2 : Hid (Wf w2 p q.b q.mc x.b x.k x.t) := (by obtain ⟨⟨n', _, M⟩, _⟩ := P2; exact M.wf (by simp)); clear P2 hp))
  all_goals clear d0 d3 e0 e1
  all_goals
    obtain ⟨⟨n', hn', M2⟩, v2⟩ := F2.out
    obtain ⟨w3, r3, M3, v3⟩ := (M2.kept (Kept.refl _).drew).clean
    obtain ⟨d0, d3, e0, e1⟩ := S2.out.out
    have FI : Hid ((∃ n', n' ≤ n + 1 ∧ CM E X w3 B p { q with x := z } (A ++ x.done :: C) n' (Q.put f x.k x.t)) ∧ Vc E B w w3) := ⟨⟨n', hn', M3⟩, (v2.trans (Vc.of (Kept.refl _).drew M2.base)).trans v3⟩
    have D3 : Hid (w3.cell? ⟨p, 3, none⟩ = some (.map (some q.mc)) ∧ w3.cell? ⟨x.b, 0, none⟩ = some (.string x.k)) := (by have := M3.wf (x := x.done) (by simp); exact ⟨this.out.2.1, this.out.2.2.1⟩)
    clear M2 v2 M3 v3 F2 S2
    go_wp2_with fail
    go_region_held3 (fun W => W.cell? ⟨p, 3, none⟩ = some (.map (some q.mc)) ∧ W.cell? ⟨x.b, 0, none⟩ = some (.string x.k)) (first | exact ⟨d3, e0⟩ | exact D3.out | go_keep) (first | fail)
  all_goals go_wp2
  all_goals go_ret
  all_goals exact ⟨rfl, FI.out⟩
end Go.Proofs.Ytbpelhfbgjplbaa.Ca
