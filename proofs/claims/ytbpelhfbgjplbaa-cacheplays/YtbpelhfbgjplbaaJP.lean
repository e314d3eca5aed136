/- The walks of Get, Delete, Put. Conditions: those that each row names. -/
import Derived.Test.YtbpelhfbgjplbaaJO
namespace Go.Proofs.Ytbpelhfbgjplbaa.Ca
open Go.ChangeShapes Go.WideShapes Go.ChangeAt Go.RowKit
open N (Kept)
open Q (kept_cell Kv Vn Km m_get m_put m_del)
variable {E : Nat → Prop} {X : List En}

theorem Fd.kept {w w1 w' : World} {B p m n : Nat} {q q' : Cc} {es es1 : List En} {x : En} {F : ByteArray → Option ByteArray} {k : ByteArray} (h : Fd E w w1 B p m n q q' es es1 x F k) (kk : Kept w1 w') : Fd E w w' B p m n q q' es es1 x F k := by
  obtain ⟨n', f', a, M, b⟩ := h.cm
  exact ⟨⟨n', f', a, M.kept kk, b⟩, h.ke, h.keys, h.m', h.r, h.cl, h.vc.trans (Vc.of kk M.base), h.len⟩
/-- What the one that was found says. -/
theorem Fd.says {w w' : World} {B p m n : Nat} {q q' : Cc} {es es1 : List En} {x : En} {F : ByteArray → Option ByteArray} {k : ByteArray} (h : Fd E w w' B p m n q q' es es1 x F k) :
    (w'.cell? ⟨x.b, 1, none⟩ = some (.string ((F k).getD ⟨#[]⟩)) ∧ w'.cell? ⟨x.b, 2, none⟩ = some (.bool (F k).isSome)) ∧ x.i = (F k).isSome := by
  obtain ⟨n', f', a, M, iv⟩ := h.cm
  obtain ⟨_, c1, c2, _⟩ := M.hs.c (x := x) (by simp)
  obtain ⟨v1, _, v3⟩ := iv.on x (by simp)
  rw [h.ke] at v1
  rw [c1, c2, v1]
  cases hi : x.i with
  | true => exact ⟨⟨rfl, rfl⟩, rfl⟩
  | false => rw [v3 hi]; exact ⟨⟨rfl, rfl⟩, rfl⟩

set_option maxRecDepth 100000 in
set_option maxHeartbeats 4000000 in
theorem get_walk {w : World} {B p m kb n : Nat} {q : Cc} {es : List En} {F : ByteArray → Option ByteArray} (h : Us E w B p m kb n q es F) (k : ByteArray) (hs : k.size ≤ 64) :
    Calls Try.prog 9 #[.pointer (some ⟨p, 0, none⟩), .string k] w fun r w' => r = .returned (.tuple #[.string ((F k).getD ⟨#[]⟩), .bool (F k).isSome, .int .i64 0]) ∧ ∃ x es1 q', Fd E w w' B p m n q q' es es1 x F k := by
  obtain ⟨f, M, iv⟩ := h.cm
  have i1 := idle_walk M.cb
  have i2 := may_walk k hs w
  have i3 := find_walk h k hs
  clear M iv h hs
  go_enter Try.func9, Try.ntmps9
  go_wp2_with (first
    | (go_at_call 18; (with_reducible refine i1.mono ?_); rintro r w1 ⟨rfl, hw1⟩; rw [hw1]; clear hw1 i1)
    | (go_at_call 19; (with_reducible refine i2.mono ?_); rintro r w1 ⟨rfl, hw1⟩; rw [hw1]; clear hw1 i2)
    | (go_at_call 21; (with_reducible refine i3.mono ?_); rintro r w3 ⟨x, es1, q', rfl, FF⟩; have FI : Hid (Fd E w w3 B p m n q q' es es1 x F k) := FF; obtain ⟨⟨s1, s2⟩, _⟩ := FF.says; clear FF i3))
  go_quiet (fail)
  go_wp2
  go_ret3
  exact ⟨rfl, x, es1, q', FI.out.kept (Q.keptN _ _)⟩

/-- Behind a change. -/
structure Af (E : Nat → Prop) (w w' : World) (B p m n : Nat) (q : Cc) (F : ByteArray → Option ByteArray) (ks : List ByteArray) : Prop where
  out : ∃ q' es' n' f', n' ≤ n + 1 ∧ (q'.m = q.m ∧ q'.b = q.b) ∧ es'.length ≤ m ∧ CM E [] w' B p q' es' n' f' ∧ Iv es' f' F ∧ es'.map (·.k) = ks
  vc : Vc E B w w'
theorem Fd.af {w w' : World} {B p m n : Nat} {q q' : Cc} {es es1 : List En} {x : En} {F : ByteArray → Option ByteArray} {k : ByteArray} (h : Fd E w w' B p m n q q' es es1 x F k) : Af E w w' B p m n q F (tk m (es.map (·.k)) k) := by
  obtain ⟨n', f', a, M, iv⟩ := h.cm
  exact ⟨⟨q', _, n', f', a, h.m', h.len, M, iv, h.keys⟩, h.vc⟩
theorem Af.us {w w' : World} {B p m kb n : Nat} {q : Cc} {es : List En} {F F' : ByteArray → Option ByteArray} {ks : List ByteArray} (a : Af E w w' B p m n q F' ks) (h : Us E w B p m kb n q es F) (hn : n + 1 ≤ 90000) : ∃ q' es' n', n' ≤ n + 1 ∧ Us E w' B p m kb n' q' es' F' ∧ es'.map (·.k) = ks := by
  obtain ⟨q', es', n', f', h1, h2, h3, h4, h5, h6⟩ := a.out
  exact ⟨q', es', n', h1, ⟨⟨f', h4, h5⟩, h2.1.trans h.m', h2.2.trans h.b', h.one, h3, h.most, by omega⟩, h6⟩
theorem Iv.chg {es : List En} {f F F' : ByteArray → Option ByteArray} {x : En} (hon : ∀ y ∈ es, F y.k = (if y.i then some y.t else none) ∧ (y.d = false → f y.k = F y.k) ∧ (y.i = false → y.t = ⟨#[]⟩)) (hoff : ∀ k, k ≠ x.k → (∀ y ∈ es, y.k ≠ k) → f k = F k)
    (hk : ∀ y ∈ es, y.k ≠ x.k) (h1 : F' x.k = (if x.i then some x.t else none)) (h2 : ∀ k, k ≠ x.k → F' k = F k) (h3 : x.i = false → x.t = ⟨#[]⟩) (hd : x.d = true) : Iv (es ++ [x]) f F' := by
  refine ⟨fun y hy => ?_, fun k hkk => ?_⟩
  · rcases List.mem_append.1 hy with hy | hy
    · rw [h2 y.k (hk y hy)]; exact hon y hy
    · simp at hy; subst hy; exact ⟨h1, fun e => (by rw [hd] at e; cases e), h3⟩
  · have e : k ≠ x.k := fun e => hkk x (by simp) e.symm
    rw [h2 k e]
    exact hoff k e fun y hy => hkk y (by simp [hy])
theorem Iv.chg_held {es : List En} {f F F' : ByteArray → Option ByteArray} {x y : En} (h : Iv (es ++ [x]) f F) (hn : Nk (es ++ [x])) (hy : y.k = x.k) (h1 : F' y.k = (if y.i then some y.t else none)) (h2 : ∀ k, k ≠ y.k → F' k = F k) (h3 : y.i = false → y.t = ⟨#[]⟩) (hd : y.d = true) : Iv (es ++ [y]) f F' := by
  refine Iv.chg (F := F) (fun z hz => h.on z (by simp [hz])) (fun k hk hz => h.off k fun z hz2 => ?_) (fun z hz => ?_) h1 h2 h3 hd
  · rcases List.mem_append.1 hz2 with hz2 | hz2
    · exact hz z hz2
    · simp at hz2; subst hz2; rw [← hy]; exact fun e => hk e.symm
  · rw [hy]
    exact (Nk.perm hn (perm_snoc es x).symm).tail.1 z hz

set_option maxRecDepth 100000 in
set_option maxHeartbeats 4000000 in
theorem del_walk {w : World} {B p m kb n : Nat} {q : Cc} {es : List En} {F : ByteArray → Option ByteArray} (h : Us E w B p m kb n q es F) (k : ByteArray) (hs : k.size ≤ 64) :
    Calls Try.prog 10 #[.pointer (some ⟨p, 0, none⟩), .string k] w fun r w' => r = .returned (.tuple #[.bool (F k).isSome, .int .i64 0]) ∧ Af E w w' B p m n q (Q.del F k) (tk m (es.map (·.k)) k) := by
  obtain ⟨f, M, iv⟩ := h.cm
  have i1 := idle_walk M.cb
  have i2 := may_walk k hs w
  have i3 := find_walk h k hs
  have hl := h.most
  clear M iv h hs
  cases hf : (F k).isSome with
  | false =>
    have HF : Hid ((F k).isSome = false) := hf
    clear hf
    go_enter Try.func10, Try.ntmps10
    go_wp2_with (first
      | (go_at_call 18; (with_reducible refine i1.mono ?_); rintro r w1 ⟨rfl, hw1⟩; rw [hw1]; clear hw1 i1)
      | (go_at_call 19; (with_reducible refine i2.mono ?_); rintro r w1 ⟨rfl, hw1⟩; rw [hw1]; clear hw1 i2)
      | (go_at_call 21; (with_reducible refine i3.mono ?_); rintro r w3 ⟨x, es1, q', rfl, FF⟩; have FI : Hid (Fd E w w3 B p m n q q' es es1 x F k) := FF; obtain ⟨⟨s1, s2⟩, _⟩ := FF.says; rw [HF.out] at s2; clear s1 FF i3))
    go_ret2
    refine ⟨rfl, ?_⟩
    have e : Q.del F k = F := funext fun v => by
      by_cases e : v = k
      · subst e; rw [Q.del_eq]; have := HF.out; cases hv : F v with
        | none => rfl
        | some t => rw [hv] at this; cases this
      · rw [Q.del_ne F e]
    rw [e]; exact FI.out.af
  | true =>
    have HF : Hid ((F k).isSome = true) := hf
    have HC : Hid (∀ w3 x es1 q', Fd E w w3 B p m n q q' es es1 x F k → Calls Try.prog 23 #[.pointer (some ⟨p, 0, none⟩), .pointer (some ⟨x.b, 0, none⟩), .string ⟨#[]⟩, .bool false] w3 (fun r w' => r = .returned (.tuple #[]) ∧ Af E w w' B p m n q (Q.del F k) (tk m (es.map (·.k)) k))) := by
      intro w3 x es1 q' h
      obtain ⟨n', f', a, M, iv⟩ := h.cm
      have hlen := h.len
      refine (change_walk (A := es1) (C := []) M (by omega) ⟨#[]⟩ false).mono ?_
      rintro r w' ⟨rfl, M', V⟩
      rw [List.append_nil] at M'
      refine ⟨rfl, ⟨⟨q', _, n', f', a, h.m', ?_, M', ?_, ?_⟩, h.vc.trans V⟩⟩
      · simpa using hlen
      · have ke := h.ke
        exact Iv.chg_held (y := ⟨x.b, x.k, ⟨#[]⟩, false, true⟩) iv M.kn rfl (by rw [ke]; exact Q.del_eq _ _) (fun v hv => Q.del_ne F (fun e => hv (e.trans ke.symm))) (fun _ => rfl) rfl
      · rw [← h.keys]; simp
    clear hf hl
    go_enter Try.func10, Try.ntmps10
    go_wp2_with (first
      | (go_at_call 18; (with_reducible refine i1.mono ?_); rintro r w1 ⟨rfl, hw1⟩; rw [hw1]; clear hw1 i1)
      | (go_at_call 19; (with_reducible refine i2.mono ?_); rintro r w1 ⟨rfl, hw1⟩; rw [hw1]; clear hw1 i2)
      | (go_at_call 21; (with_reducible refine i3.mono ?_); rintro r w3 ⟨x, es1, q', rfl, FF⟩; have l4 := HC.out w3 x es1 q' FF; obtain ⟨⟨s1, s2⟩, _⟩ := FF.says; rw [HF.out] at s2; clear s1 FF i3 HC)
      | (go_at_call 23; (with_reducible refine l4.mono ?_); rintro r w4 ⟨rfl, A4⟩; have FA : Hid (Af E w w4 B p m n q (Q.del F k) (tk m (es.map (·.k)) k)) := A4; clear A4 l4))
    go_ret2
    exact ⟨rfl, FA.out⟩

set_option maxRecDepth 100000 in
set_option maxHeartbeats 4000000 in
theorem put_held {w : World} {B p m kb n : Nat} {q : Cc} {A C : List En} {x : En} {F : ByteArray → Option ByteArray} (h : Us E w B p m kb n q (A ++ x :: C) F) (t : ByteArray) (ht : t.size ≤ 65536) :
    Calls Try.prog 14 #[.pointer (some ⟨p, 0, none⟩), .string x.k, .string t] w fun r w' => r = .returned (.int .i64 0) ∧ Af E w w' B p m n q (Q.put F x.k t) (tk m ((A ++ x :: C).map (·.k)) x.k) := by
  obtain ⟨f, M, iv⟩ := h.cm
  have hx : x ∈ A ++ x :: C := by simp
  obtain ⟨_, _, c2, _⟩ := M.cb.c
  have lk0 := M.hm.look x.k (M.sz x hx)
  rw [(hmap_iff M.kn x.k x.b).2 ⟨x, hx, rfl, rfl⟩] at lk0
  have lk : (Instr.lookup 57 (.map (some q.mh)) (.string x.k) false).run Try.prog w = .ok (.pointer (some ⟨x.b, 0, none⟩)) w := lk0
  have i1 := idle_walk M.cb
  have i2 := may_walk x.k (M.sz x hx) w
  have hlen := h.len
  have hl := h.most
  have ht2 : ¬ (65536 : Int) < (t.size : Int) := by omega
  have i3 : Calls Try.prog 23 #[.pointer (some ⟨p, 0, none⟩), .pointer (some ⟨x.b, 0, none⟩), .string t, .bool true] w (fun r w' => r = .returned (.tuple #[]) ∧ Af E w w' B p m n q (Q.put F x.k t) (tk m ((A ++ x :: C).map (·.k)) x.k)) := by
    refine (change_walk M (by omega) t true).mono ?_
    rintro r w' ⟨rfl, M', V⟩
    have pm := perm_mid A C x
    refine ⟨rfl, ⟨⟨q, _, n, f, by omega, ⟨rfl, rfl⟩, ?_, M', ?_, ?_⟩, V⟩⟩
    · simp at hlen ⊢; omega
    · exact Iv.chg_held (y := ⟨x.b, x.k, t, true, true⟩) (iv.perm pm) (Nk.perm M.kn pm) rfl (Q.put_eq _ _ _) (fun v hv => Q.put_ne F t hv) (fun e => by cases e) rfl
    · rw [← tk_held M.kn m]; simp
  clear lk0 M iv h hx hlen hl ht
  go_enter Try.func14, Try.ntmps14
  go_wp2_with (first
    | (go_at_call 18; (with_reducible refine i1.mono ?_); rintro r w1 ⟨rfl, hw1⟩; rw [hw1]; clear hw1 i1)
    | (go_at_call 19; (with_reducible refine i2.mono ?_); rintro r w1 ⟨rfl, hw1⟩; rw [hw1]; clear hw1 i2)
    | (go_at_call 23; (with_reducible refine i3.mono ?_); rintro r w4 ⟨rfl, A4⟩; have FA : Hid (Af E w w4 B p m n q (Q.put F x.k t) (tk m ((A ++ x :: C).map (·.k)) x.k)) := A4; clear A4 i3))
  go_ret
  exact ⟨rfl, FA.out⟩

set_option maxRecDepth 100000 in
set_option maxHeartbeats 4000000 in
theorem put_new {w : World} {B p m kb n : Nat} {q : Cc} {es : List En} {F : ByteArray → Option ByteArray} (h : Us E w B p m kb n q es F) (k t : ByteArray) (hs : k.size ≤ 64) (ht : t.size ≤ 65536) (hk : ∀ y ∈ es, y.k ≠ k) :
    Calls Try.prog 14 #[.pointer (some ⟨p, 0, none⟩), .string k, .string t] w fun r w' => r = .returned (.int .i64 0) ∧ Af E w w' B p m n q (Q.put F k t) (tk m (es.map (·.k)) k) := by
  obtain ⟨f, M, iv⟩ := h.cm
  obtain ⟨_, _, c2, _⟩ := M.cb.c
  have lk0 := M.hm.look k hs
  rw [hmap_none.2 hk] at lk0
  have lk : (Instr.lookup 57 (.map (some q.mh)) (.string k) false).run Try.prog w = .ok (.pointer none) w := lk0
  have i1 := idle_walk M.cb
  have i2 := may_walk k hs w
  have ht2 : ¬ (65536 : Int) < (t.size : Int) := by omega
  have hm := h.m'
  have h1 := h.one
  have hl := h.len
  have hl2 := h.most
  have hn := h.few
  have M3 := M.fresh k ⟨#[]⟩ false
  have i3 : Calls Try.prog 28 #[.pointer (some ⟨p, 0, none⟩), .pointer (some ⟨w.heap.size, 0, none⟩)] (w.alloc (.cells #[.string k, .string ⟨#[]⟩, .bool false, .pointer none, .pointer none] 56)) (fun r w' => r = .returned (.int .i64 0) ∧ Calls Try.prog 23 #[.pointer (some ⟨p, 0, none⟩), .pointer (some ⟨w.heap.size, 0, none⟩), .string t, .bool true] w' (fun r w'' => r = .returned (.tuple #[]) ∧ Af E w w'' B p m n q (Q.put F k t) (tk m (es.map (·.k)) k))) := by
    refine (hold_walk (x := ⟨w.heap.size, k, ⟨#[]⟩, false, false⟩) M3 (by simp) hm h1 hl (by omega) (by omega) hk hs rfl M.base).mono ?_
    rintro r w3 ⟨rfl, ⟨z, n2, hn2, hz, M4⟩, V⟩
    have hle : (ev m es ++ [(⟨w.heap.size, k, ⟨#[]⟩, false, false⟩ : En)]).length ≤ m := by rw [List.length_append, List.length_singleton]; exact ev_len h1 hl
    refine ⟨rfl, ?_⟩
    refine (change_walk (A := ev m es) (C := []) (x := ⟨w.heap.size, k, ⟨#[]⟩, false, false⟩) M4 (by omega) t true).mono ?_
    rintro r w' ⟨rfl, M', V'⟩
    rw [List.append_nil] at M'
    have iv2 := iv.ev (m := m) M.kn
    refine ⟨rfl, ⟨⟨{ q with x := z }, _, n2, _, hn2, ⟨rfl, rfl⟩, ?_, M', ?_, tk_new (x := ⟨w.heap.size, k, t, true, true⟩) hk m⟩, ((Vc.of ((Kept.refl w).alloc _) M.base).trans V).trans V'⟩⟩
    · simpa using hle
    · exact Iv.chg (F := F) iv2.on (fun v _ hv => iv2.off v hv) (fun y hy => hk y (ev_mem hy)) (Q.put_eq _ _ _) (fun v hv => Q.put_ne F t hv) (fun e => by cases e) rfl
  clear lk0 M iv h hk hm h1 hl hl2 hn M3 hs ht
  go_enter Try.func14, Try.ntmps14
  go_wp2_with (first
    | (go_at_call 18; (with_reducible refine i1.mono ?_); rintro r w1 ⟨rfl, hw1⟩; rw [hw1]; clear hw1 i1)
    | (go_at_call 19; (with_reducible refine i2.mono ?_); rintro r w1 ⟨rfl, hw1⟩; rw [hw1]; clear hw1 i2)
    | (go_at_call 28; (with_reducible refine i3.mono ?_); rintro r w3 ⟨rfl, i4⟩; clear i3)
    | (go_at_call 23; (with_reducible refine i4.mono ?_); rintro r w4 ⟨rfl, A4⟩; have FA : Hid (Af E w w4 B p m n q (Q.put F k t) (tk m (es.map (·.k)) k)) := A4; clear A4 i4))
  go_ret
  exact ⟨rfl, FA.out⟩

theorem put_walk {w : World} {B p m kb n : Nat} {q : Cc} {es : List En} {F : ByteArray → Option ByteArray} (h : Us E w B p m kb n q es F) (k t : ByteArray) (hs : k.size ≤ 64) (ht : t.size ≤ 65536) :
    Calls Try.prog 14 #[.pointer (some ⟨p, 0, none⟩), .string k, .string t] w fun r w' => r = .returned (.int .i64 0) ∧ Af E w w' B p m n q (Q.put F k t) (tk m (es.map (·.k)) k) := by
  obtain ⟨f, M, iv⟩ := h.cm
  cases hh : hmap es k with
  | none => exact put_new h k t hs ht (hmap_none.1 hh)
  | some b =>
    obtain ⟨A, x, C, rfl, rfl, rfl⟩ := find_at M.kn hh
    exact put_held h t ht
end Go.Proofs.Ytbpelhfbgjplbaa.Ca
