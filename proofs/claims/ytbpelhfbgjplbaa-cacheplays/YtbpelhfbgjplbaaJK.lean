/- The walk of write where a key has nothing; write whole. Conditions: those that each row names. -/
import Derived.Test.YtbpelhfbgjplbaaJJ
namespace Go.Proofs.Ytbpelhfbgjplbaa.Ca
open Go.ChangeShapes Go.WideShapes Go.ChangeAt Go.RowKit
open N (Kept)
open Q (kept_cell Kv Vn Km m_get m_put m_del)
variable {E : Nat → Prop} {X : List En}

set_option maxRecDepth 100000 in
set_option maxHeartbeats 4000000 in
theorem write_del {w : World} {B p n : Nat} {q : Cc} {A C : List En} {x : En} {f : ByteArray → Option ByteArray} (h : CM E X w B p q (A ++ x :: C) n f) (hn : n ≤ 100000) (hi : x.i = false) :
    Calls Try.prog 25 #[.pointer (some ⟨p, 0, none⟩), .pointer (some ⟨x.b, 0, none⟩)] w fun r w' => r = .returned (.int .i64 0) ∧ (∃ n', n' ≤ n + 1 ∧ CM E X w' B p { q with x := IntKind.i64.wrap (q.x + 1) } (A ++ x.done :: C) n' (wrt f x)) ∧ Vc E B w w' := by
  have hx : x ∈ A ++ x :: C := by simp
  obtain ⟨b0, _, b2, _⟩ := h.hs.c hx
  rw [hi] at b2
  have hw : wrt f x = Q.del f x.k := by unfold wrt; rw [hi]; rfl
  rw [hw]
  have hr : Calls Try.prog 22 #[.pointer (some ⟨p, 0, none⟩), .string x.k] w (fun r w2 => (∃ is, r = .returned (.tuple #[.bool is, .int .i64 0])) ∧ ((∃ n', n' ≤ n + 1 ∧ CM E X w2 B p { q with x := IntKind.i64.wrap (q.x + 1) } (A ++ x :: C) n' (Q.del f x.k)) ∧ Vc E B w w2)) := by
    refine (remove_walk h.cb h.kv h.le.1 hn h.base x.k).mono ?_
    rintro r w2 ⟨is, w1, cb, cf, ⟨n', hn', kv⟩, v⟩
    have h1 := h.cost (a := q.r) cb cf
    exact ⟨is, ⟨n', by omega, h1.vn v kv⟩, cf.vc.trans (Vn.vc v)⟩
  generalize IntKind.i64.wrap (q.x + 1) = z at *
  clear h hw hi hx
  go_enter Try.func25, Try.ntmps25
  go_wp2_with (go_at_call 22; (with_reducible refine hr.mono ?_); rintro r w2 ⟨⟨is, rfl⟩, P2⟩; have F2 : Hid (_ ∧ _) := P2; clear P2 hr b0 b2)
  all_goals
    obtain ⟨⟨n', hn', M2⟩, v2⟩ := F2.out
    obtain ⟨w3, r3, M3, v3⟩ := (M2.kept (Kept.refl _).drew).clean
    obtain ⟨d0, d3, e0, e1⟩ := (M2.wf (x := x) (by simp)).out
    have FI : Hid ((∃ n', n' ≤ n + 1 ∧ CM E X w3 B p { q with x := z } (A ++ x.done :: C) n' (Q.del f x.k)) ∧ Vc E B w w3) := ⟨⟨n', hn', M3⟩, (v2.trans (Vc.of (Kept.refl _).drew M2.base)).trans v3⟩
    have D3 : Hid (w3.cell? ⟨p, 3, none⟩ = some (.map (some q.mc)) ∧ w3.cell? ⟨x.b, 0, none⟩ = some (.string x.k)) := (by have := M3.wf (x := x.done) (by simp); exact ⟨this.out.2.1, this.out.2.2.1⟩)
    clear M2 v2 M3 v3 F2
    go_wp2_with fail
    go_region_held3 (fun W => W.cell? ⟨p, 3, none⟩ = some (.map (some q.mc)) ∧ W.cell? ⟨x.b, 0, none⟩ = some (.string x.k)) (first | exact ⟨d3, e0⟩ | exact D3.out | go_keep) (first | fail)
  all_goals go_wp2
  all_goals go_ret
  all_goals exact ⟨rfl, FI.out⟩

/-- One is written. -/
theorem write_walk {w : World} {B p n : Nat} {q : Cc} {A C : List En} {x : En} {f : ByteArray → Option ByteArray} (h : CM E X w B p q (A ++ x :: C) n f) (hn : n ≤ 100000) :
    Calls Try.prog 25 #[.pointer (some ⟨p, 0, none⟩), .pointer (some ⟨x.b, 0, none⟩)] w fun r w' => r = .returned (.int .i64 0) ∧ (∃ n', n' ≤ n + 1 ∧ CM E X w' B p { q with x := IntKind.i64.wrap (q.x + 1) } (A ++ x.done :: C) n' (wrt f x)) ∧ Vc E B w w' := by
  cases hi : x.i with
  | true => exact write_put h hn hi
  | false => exact write_del h hn hi
end Go.Proofs.Ytbpelhfbgjplbaa.Ca
