/- The walks of find, Get, Delete. Conditions: those that each row names. -/
import Derived.Test.YtbpelhfbgjplbaaJN
namespace Go.Proofs.Ytbpelhfbgjplbaa.Ca
open Go.ChangeShapes Go.WideShapes Go.ChangeAt Go.RowKit
open N (Kept)
open Q (kept_cell Kv Vn Km m_get m_put m_del)
variable {E : Nat → Prop} {X : List En}

/-- Behind one that was found: it is the newest one. -/
structure Fd (E : Nat → Prop) (w w' : World) (B p m n : Nat) (q q' : Cc) (es es1 : List En) (x : En) (F : ByteArray → Option ByteArray) (k : ByteArray) : Prop where
  cm : ∃ n' f', n' ≤ n + 1 ∧ CM E [] w' B p q' (es1 ++ [x]) n' f' ∧ Iv (es1 ++ [x]) f' F
  ke : x.k = k
  keys : (es1 ++ [x]).map (·.k) = tk m (es.map (·.k)) k
  m' : q'.m = q.m ∧ q'.b = q.b
  r : q'.r = if (es.map (·.k)).any (fun y => decide (y = k)) then q.r else IntKind.i64.wrap (q.r + 1)
  cl : (∀ y ∈ es, y.d = false) → (∀ y ∈ es1 ++ [x], y.d = false) ∧ q'.x = q.x
  vc : Vc E B w w'
  len : (es1 ++ [x]).length ≤ m

/-- A cache in use. -/
structure Us (E : Nat → Prop) (w : World) (B p m kb n : Nat) (q : Cc) (es : List En) (F : ByteArray → Option ByteArray) : Prop where
  cm : ∃ f, CM E [] w B p q es n f ∧ Iv es f F
  m' : q.m = (m : Nat)
  b' : q.b = kb
  one : 1 ≤ m
  len : es.length ≤ m
  most : m ≤ 900
  few : n ≤ 90000

set_option maxRecDepth 100000 in
set_option maxHeartbeats 4000000 in
theorem find_held {w : World} {B p m kb n : Nat} {q : Cc} {A C : List En} {x : En} {F : ByteArray → Option ByteArray} (h : Us E w B p m kb n q (A ++ x :: C) F) :
    Calls Try.prog 21 #[.pointer (some ⟨p, 0, none⟩), .string x.k] w fun r w' => r = .returned (.tuple #[.pointer (some ⟨x.b, 0, none⟩), .int .i64 0]) ∧ Fd E w w' B p m n q q (A ++ x :: C) (A ++ C) x F x.k := by
  obtain ⟨f, M, iv⟩ := h.cm
  have hx : x ∈ A ++ x :: C := by simp
  obtain ⟨_, _, c2, _⟩ := M.cb.c
  have lk0 := M.hm.look x.k (M.sz x hx)
  rw [(hmap_iff M.kn x.k x.b).2 ⟨x, hx, rfl, rfl⟩] at lk0
  have lk : (Instr.lookup 57 (.map (some q.mh)) (.string x.k) false).run Try.prog w = .ok (.pointer (some ⟨x.b, 0, none⟩)) w := lk0
  have pm := perm_mid A C x
  have l2 : Calls Try.prog 29 #[.pointer (some ⟨p, 0, none⟩), .pointer (some ⟨x.b, 0, none⟩)] w (fun r w' => r = .returned (.tuple #[]) ∧ Fd E w w' B p m n q q (A ++ x :: C) (A ++ C) x F x.k) := by
    refine (renew_walk M.cb M.hs M.bd).mono ?_
    rintro r w3 ⟨rfl, h3, f3⟩
    refine ⟨rfl, ⟨⟨n, f, by omega, ⟨M.cb.ky f3.kC, h3, ?_, ?_, Kv.ky M.kv f3.kV, Nk.perm M.kn pm, fun z hz => M.sz z (pm.mem_iff.2 hz), M.ne, M.bd.sub fun z hz => ⟨z, pm.mem_iff.2 hz, rfl⟩, M.le, Nat.le_trans M.base f3.low.size⟩, iv.perm pm⟩, rfl, tk_held M.kn m, ⟨rfl, rfl⟩, ?_, ?_, f3.vc, ?_⟩⟩
    · rw [← pm.length_eq]
      exact (M.hm.ky f3.kM).congr fun k => hmap_perm M.kn pm k
    · rw [cnt_perm pm]
      exact (M.cm.ky f3.kM).congr fun k => cmap_perm M.kn pm k
    · rw [if_pos (List.any_eq_true.2 ⟨x.k, List.mem_map.2 ⟨x, hx, rfl⟩, by simp⟩)]
    · exact fun hc => ⟨fun y hy => hc y (pm.mem_iff.2 hy), rfl⟩
    · rw [← pm.length_eq]; exact h.len
  clear lk0 M iv h pm hx
  go_enter Try.func21, Try.ntmps21
  go_wp2_with (go_at_call 29; (with_reducible refine l2.mono ?_); rintro r w3 ⟨rfl, FF⟩; have FI : Hid (Fd E w w3 B p m n q q (A ++ x :: C) (A ++ C) x F x.k) := FF; clear FF l2)
  go_ret2
  exact ⟨rfl, FI.out⟩

set_option maxRecDepth 100000 in
set_option maxHeartbeats 4000000 in
theorem find_new {w : World} {B p m kb n : Nat} {q : Cc} {es : List En} {F : ByteArray → Option ByteArray} (h : Us E w B p m kb n q es F) (k : ByteArray) (hs : k.size ≤ 64) (hk : ∀ y ∈ es, y.k ≠ k) :
    Calls Try.prog 21 #[.pointer (some ⟨p, 0, none⟩), .string k] w fun r w' => ∃ x es1 q', r = .returned (.tuple #[.pointer (some ⟨x.b, 0, none⟩), .int .i64 0]) ∧ Fd E w w' B p m n q q' es es1 x F k := by
  obtain ⟨f, M, iv⟩ := h.cm
  have hm := h.m'
  have h1 := h.one
  have hl := h.len
  have hl2 := h.most
  have hn := h.few
  obtain ⟨_, _, c2, _⟩ := M.cb.c
  have lk0 := M.hm.look k hs
  rw [hmap_none.2 hk] at lk0
  have lk : (Instr.lookup 57 (.map (some q.mh)) (.string k) false).run Try.prog w = .ok (.pointer none) w := lk0
  have hfk : f k = F k := iv.off k hk
  obtain ⟨t, ht⟩ : ∃ t, (f k).getD ⟨#[]⟩ = t := ⟨_, rfl⟩
  obtain ⟨i, hi⟩ : ∃ i, (f k).isSome = i := ⟨_, rfl⟩
  have hF : F k = if i then some t else none := by
    rw [← hfk, ← ht, ← hi]
    cases f k <;> rfl
  have hi2 : i = false → t = ⟨#[]⟩ := by
    rw [← ht, ← hi]
    cases f k <;> simp
  have l2 := read_walk M.cb M.kv M.le.1 k
  rw [ht, hi] at l2
  have H2 : Hid (∀ w2, CB w2 p { q with r := IntKind.i64.wrap (q.r + 1) } → Cf B p w w2 →
      Calls Try.prog 28 #[.pointer (some ⟨p, 0, none⟩), .pointer (some ⟨w2.heap.size, 0, none⟩)] (w2.alloc (.cells #[.string k, .string t, .bool i, .pointer none, .pointer none] 56)) (fun r w3 => r = .returned (.int .i64 0) ∧ ∃ q', Fd E w w3 B p m n q q' es (ev m es) ⟨w2.heap.size, k, t, i, false⟩ F k)) := by
    intro w2 cb cf
    have M2 := M.cost (b := q.x) cb cf
    have M3 := M2.fresh k t i
    refine (hold_walk (x := ⟨w2.heap.size, k, t, i, false⟩) M3 (by simp) hm h1 hl (by omega) (by omega) hk hs rfl M2.base).mono ?_
    rintro r w3 ⟨rfl, ⟨z, n2, hn2, hz, M4⟩, V⟩
    have iv4 : Iv (ev m es ++ [⟨w2.heap.size, k, t, i, false⟩]) (evf m es f) F := by
      have ive := iv.ev (m := m) M.kn
      exact ive.add hF (fun _ => ive.off k fun x hx => hk x (ev_mem hx)) hi2
    refine ⟨rfl, _, ⟨⟨n2, _, hn2, M4, iv4⟩, rfl, tk_new (x := ⟨w2.heap.size, k, t, i, false⟩) hk m, ⟨rfl, rfl⟩, ?_, fun hc => ⟨fun y hy => ?_, hz hc⟩, (cf.vc.trans (Vc.of ((Kept.refl w2).alloc _) M2.base)).trans V, ?_⟩⟩
    · rw [if_neg (fun hm2 => by
        obtain ⟨k', hk2, e⟩ := List.any_eq_true.1 hm2
        obtain ⟨y, hy, rfl⟩ := List.mem_map.1 hk2
        exact hk y hy (by simpa using e))]
    · rcases List.mem_append.1 hy with hy | hy
      · exact hc y (ev_mem hy)
      · simp at hy; subst hy; rfl
    · rw [List.length_append, List.length_singleton]; exact ev_len h1 hl
  clear lk0 M iv h hk hm h1 hl hl2 hn ht hi hF hi2 hfk hs
  go_enter Try.func21, Try.ntmps21
  go_wp2_with (first
    | (go_at_call 20; (with_reducible refine l2.mono ?_); rintro r w2 ⟨rfl, cb, cf⟩; have l3 := H2.out w2 cb cf; clear cb cf l2 H2)
    | (go_at_call 28; (with_reducible refine l3.mono ?_); rintro r w3 ⟨rfl, FF⟩; have FI : Hid (∃ q', Fd E w w3 B p m n q q' es (ev m es) ⟨w2.heap.size, k, t, i, false⟩ F k) := FF; clear FF l3))
  go_ret2
  obtain ⟨q', FF⟩ := FI.out
  exact ⟨_, _, q', rfl, FF⟩

theorem find_walk {w : World} {B p m kb n : Nat} {q : Cc} {es : List En} {F : ByteArray → Option ByteArray} (h : Us E w B p m kb n q es F) (k : ByteArray) (hs : k.size ≤ 64) :
    Calls Try.prog 21 #[.pointer (some ⟨p, 0, none⟩), .string k] w fun r w' => ∃ x es1 q', r = .returned (.tuple #[.pointer (some ⟨x.b, 0, none⟩), .int .i64 0]) ∧ Fd E w w' B p m n q q' es es1 x F k := by
  obtain ⟨f, M, iv⟩ := h.cm
  cases hh : hmap es k with
  | none => exact find_new h k hs (hmap_none.1 hh)
  | some b =>
    obtain ⟨A, x, C, rfl, rfl, rfl⟩ := find_at M.kn hh
    refine (find_held h).mono ?_
    rintro r w' ⟨rfl, FF⟩
    exact ⟨x, A ++ C, q, rfl, FF⟩
end Go.Proofs.Ytbpelhfbgjplbaa.Ca
