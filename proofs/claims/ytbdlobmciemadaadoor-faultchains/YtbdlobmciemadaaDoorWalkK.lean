/- The walk of the statements' made: faults within one another out of a list of places and numbers (20 at most), their numbers as a list, and their text. Conditions: errors.errorType and the library's table of powers of ten hold what the program's text lays; the list's cells hold strings and numbers. -/
import Derived.Test.YtbdlobmciemadaaDoorWalkJ
namespace Go.Proofs.YtbdlobmciemadaaDoor
open Go.RowKit

theorem and511 (a : Int) : ∃ m : Nat, m < 512 ∧ bits .and .i64 a 511 = (m : Int) := by
  have h1 : (BitVec.ofInt 64 511).toNat = 2 ^ 9 - 1 := by decide
  have key : (BitVec.ofInt 64 a &&& BitVec.ofInt 64 511).toNat = (a % ((2 ^ 64 : Nat) : Int)).toNat % 2 ^ 9 := by
    rw [BitVec.toNat_and, BitVec.toNat_ofInt, h1, Nat.and_two_pow_sub_one_eq_mod]
  refine ⟨(a % ((2 ^ 64 : Nat) : Int)).toNat % 2 ^ 9, by omega, ?_⟩
  show IntKind.i64.wrap ((BitVec.ofInt 64 a &&& BitVec.ofInt 64 511).toNat : Nat) = _
  rw [key, IntKind.wrap_i64]
  omega

/-- What made makes: a number from 1 to 511, a place of 10 bytes at most. -/
structure Small (y : Nd) : Prop where
  c0 : 1 ≤ y.c
  c1 : y.c ≤ 511
  s : y.s.size ≤ 10

theorem small_more {b : Nat} {x : ByteArray} {m : Int} {l : List Nd} (h : ∀ y ∈ l, Small y) (h0 : 1 ≤ m) (h1 : m ≤ 511) (hx : x.size ≤ 10) : ∀ y ∈ (⟨b, x, m⟩ : Nd) :: l, Small y := by
  intro y hy
  rcases List.mem_cons.1 hy with rfl | hy
  · exact ⟨h0, h1, hx⟩
  · exact h y hy

theorem Small.fine {y : Nd} (h : Small y) : Fine y := ⟨by have := h.c0; omega, by have := h.c1; omega, by have := h.s; omega⟩

theorem part_len {y : Nd} (h : Small y) : (part y).length ≤ 523 := by
  have h1 := itoa_le y.c (by have := h.c0; omega)
  have h2 := h.c1
  have h3 : y.s.data.toList.length ≤ 10 := by rw [Array.length_toList]; exact h.s
  simp only [part, List.length_append, List.length_cons]
  omega

theorem flat_len : ∀ (l : List Nd), (∀ y ∈ l, Small y) → (flat l).length ≤ 525 * l.length
  | [], _ => by simp [flat]
  | x :: r, h => by
    have h1 := part_len (h x (List.mem_cons_self))
    have h2 := flat_len r (fun y hy => h y (List.mem_cons_of_mem _ hy))
    rw [flat_cons]
    simp only [List.length_append, List.length_cons, List.cons_append] at *
    omega

theorem txt_len (l : List Nd) (h : ∀ y ∈ l, Small y) : (txt l).length ≤ 525 * l.length := by
  have := flat_len l h
  unfold txt
  rw [List.length_drop]
  omega

/-- A list of plain numbers, in memory. -/
structure NumI (W : World) (l : List Nd) (g cap : Nat) : Prop where
  lt : g < W.heap.size
  cap : l.length ≤ cap
  at' : ∀ (k : Nat) (y : Nd), l[k]? = some y → W.cell? ⟨g, k, none⟩ = some (.int .i64 y.c)

theorem NumI.kept {W W' : World} {l : List Nd} {g cap : Nat} (h : NumI W l g cap) (k : Kept W W') : NumI W' l g cap :=
  ⟨Nat.lt_of_lt_of_le h.lt k.size, h.cap, fun i y hy => k.cell (h.at' i y hy)⟩

theorem info3 : (Tryd.prog.info? 3).map (fun i => (i.zero, i.size, i.bytes)) = some (some (.int .i64 0), 1, 8) := by kernel_rfl

theorem itoa_k (c : Int) (h0 : 0 ≤ c) (h1 : c ≤ 1000000) (W : World) (hd : Lds W) :
    Calls Tryd.prog 19 #[.int .i64 c] W fun e w' => e = .returned (.string ⟨(Lib.itoa c).toArray⟩) ∧ Kept W w' := by
  refine (Tryd.strconv_Itoa c (by omega) (by omega) W hd.tab).mono ?_
  rintro e w' ⟨rfl, k, os, rfl⟩
  exact ⟨rfl, Kept.grow _ _ _⟩

theorem add_zero_off (g j : Nat) : (⟨g, 0, none⟩ : Addr).add j = ⟨g, j, none⟩ := by unfold Addr.add; split <;> simp_all

theorem alloc_two (W : World) (o o' : Obj) : ((W.alloc o).alloc o').heap[W.heap.size + 1]? = some o' := by
  have h := heap_alloc_new (W.alloc o) o'
  have e : (W.alloc o).heap.size = W.heap.size + 1 := by show (W.heap.push o).size = _; simp
  rw [e] at h
  exact h

theorem text_more (t x : ByteArray) (m : Int) (b : Nat) (l : List Nd) (ht : t.data.toList = txt l) (he : (!t.toList.isEmpty) = true) :
    (x ++ ⟨#[32]⟩ ++ ⟨(Lib.itoa m).toArray⟩ ++ (⟨#[58, 32]⟩ ++ t)).data.toList = txt (⟨b, x, m⟩ :: l) := by
  cases l with
  | nil =>
    rw [ByteArray.toList_eq, ht] at he
    simp [txt, flat] at he
  | cons y r =>
    rw [txt_cons, flat_txt]
    simp [part, ht]

theorem text_one (t x : ByteArray) (m : Int) (b : Nat) (l : List Nd) (ht : t.data.toList = txt l) (he : (!t.toList.isEmpty) = false) :
    (x ++ ⟨#[32]⟩ ++ ⟨(Lib.itoa m).toArray⟩).data.toList = txt (⟨b, x, m⟩ :: l) := by
  cases l with
  | nil =>
    rw [txt_one]
    simp [part]
  | cons y r =>
    rw [ByteArray.toList_eq, ht, txt_cons] at he
    simp [part] at he

/-- Behind a round's append: the new fault, the new list of numbers; all that was there is as it was. -/
theorem made_step {W w1 : World} {l : List Nd} {u v1 : Value} {x : ByteArray} {m : Int} {g cap : Nat}
    (hgrow : ((W.alloc (.cells #[.string x, .int .i64 m, u] 50)).alloc (.cells #[.int .i64 m] 3)).grownBy w1 (Value.slice (some ⟨W.heap.size + 1, 0, none⟩) 1 1).ownBlock)
    (hown : w1.ownsRow (W.heap.size + 1) 3 1 v1 (1 + l.length) ([.int .i64 m] ++ codes l)) (hch : Ch W l u) (_hn : NumI W l g cap) :
    ∃ g1 cap2, v1 = .slice (some ⟨g1, 0, none⟩) (1 + l.length) cap2 ∧ Kept W w1 ∧ Ch w1 (⟨W.heap.size, x, m⟩ :: l) (.iface 39 (.pointer (some ⟨W.heap.size, 0, none⟩))) ∧ NumI w1 (⟨W.heap.size, x, m⟩ :: l) g1 cap2 := by
  have hk2 : Kept W ((W.alloc (.cells #[.string x, .int .i64 m, u] 50)).alloc (.cells #[.int .i64 m] 3)) := ((Kept.refl W).alloc _).alloc _
  have hk1 : Kept W w1 := ⟨hk2.out.grown hgrow hk2.size (fun k h => by simp [Value.ownBlock] at h; omega)⟩
  have hnode : w1.heap[W.heap.size]? = some (.cells #[.string x, .int .i64 m, u] 50) := by
    rw [hgrow.block W.heap.size (by simp; omega) (by simp [Value.ownBlock])]
    exact ((Kept.refl _).alloc _).block (heap_alloc_new W _)
  rcases hown.2 with ⟨_, h0⟩ | ⟨g1, cap2, cur, rfl, hb, hg, hc, _, _, ht⟩
  · omega
  · refine ⟨g1, cap2, rfl, hk1, ⟨rfl, u, hnode, Ch.kept hk1 _ _ hch⟩, (Array.getElem?_eq_some_iff.1 hg).1, by simpa [Nat.add_comm] using hc, fun k y hy => ?_⟩
    have h1 : ([Value.int .i64 m] ++ codes l)[k]? = some (.int .i64 y.c) := by
      have : (codes (⟨W.heap.size, x, m⟩ :: l))[k]? = some (.int .i64 y.c) := by simp only [codes, List.getElem?_map, hy]; rfl
      simpa [codes] using this
    rw [← ht, List.getElem?_take] at h1
    split at h1
    · rw [cell_of_row w1 g1 k _ _ _ hg]; simpa using h1
    · cases h1

set_option maxRecDepth 100000 in
set_option maxHeartbeats 1000000 in
theorem made_walk (p : Option Addr) (n cap b off : Nat) (S : Nat → ByteArray) (C : Nat → Int) (w : World) (hd : Lds w) (hn : n ≤ 9223372036854775807) (hp : 0 < n → p = some ⟨b, off, none⟩) (hS : ∀ j, (S j).size ≤ 9223372036854775807)
    (hs : ∀ j, j < n → w.cell? ⟨b, off + j * 2, none⟩ = some (.string (S j))) (hc : ∀ j, j < n → w.cell? ⟨b, off + j * 2 + 1, none⟩ = some (.int .i64 (C j))) :
    Calls Tryd.prog 8 #[.slice p n cap] w fun e w' => ∃ l err g cap t, e = .returned (.tuple #[err, .slice (some ⟨g, 0, none⟩) l.length cap, .string t]) ∧ Ch w' l err ∧ NumI w' l g cap ∧ t.data.toList = txt l ∧ l.length ≤ 20 ∧ (∀ y ∈ l, Small y) ∧ Kept w w' := by
  obtain ⟨i0, hi, hz0, hz1, hz2⟩ := info_parts info3
  have HP : Hid (0 < n → p = some ⟨b, off, none⟩) := hp
  have HS : Hid (∀ j, j < n → w.cell? ⟨b, off + j * 2, none⟩ = some (.string (S j))) := hs
  have HC : Hid (∀ j, j < n → w.cell? ⟨b, off + j * 2 + 1, none⟩ = some (.int .i64 (C j))) := hc
  have HZ : Hid (∀ j, (S j).size ≤ 9223372036854775807) := hS
  have HD : Hid (Lds w) := hd
  clear hd hp hs hc hS
  go_enter Tryd.func8, Tryd.ntmps8
  go_wp2
  go_loopg [5, 6, 7, 8] 20 (fun m err v t i wx => ∃ (k : Nat) (l : List Nd) (g cap : Nat) (s : ByteArray), k + m = 20 ∧ i = .int .i64 k ∧ v = .slice (some ⟨g, 0, none⟩) l.length cap ∧ t = .string s ∧ Ch wx l err ∧ NumI wx l g cap ∧ s.data.toList = txt l ∧ l.length ≤ k ∧ (∀ y ∈ l, Small y) ∧ Kept w wx)
  case atStart => exact ⟨0, [], _, _, _, rfl, rfl, rfl, rfl, rfl, ⟨by simp, by simp, fun i y hy => by simp at hy⟩, rfl, by simp, fun y hy => by simp at hy, (Kept.refl w).alloc _⟩
  case round =>
    obtain ⟨k, l, g, cap1, t, hkm, rfl, rfl, rfl, hch, hnum, ht, hlk, hsm, hk⟩ := hrel
    have HCH : Hid (Ch wr l u5) := hch
    have HN : Hid (NumI wr l g cap1) := hnum
    have HT : Hid (t.data.toList = txt l) := ht
    have HM : Hid (∀ y ∈ l, Small y) := hsm
    have HSH : Hid (u5 = .nilIface ∨ ∃ p, u5 = .iface 39 p) := hch.shape
    clear hch hnum ht hsm
    by_cases hlt : k < n ∧ k < 20
    · obtain ⟨hkn, hk20⟩ := hlt
      obtain rfl := HP.out (by omega)
      have cs := hk.cell (HS.out k hkn)
      have cc := hk.cell (HC.out k hkn)
      have hSz := HZ.out k
      generalize S k = s at *
      generalize C k = c0 at *
      obtain ⟨m, hm, em⟩ := and511 c0
      by_cases hm0 : m = 0
      · subst hm0
        go_wp2
        obtain ⟨q, rfl⟩ : ∃ q, gk = q + 1 := ⟨gk - 1, by omega⟩
        go_roundg q
        case measure => omega
        case rel => exact ⟨k + 1, l, g, cap1, t, by omega, by go_num, rfl, rfl, HCH.out, HN.out, HT.out, by omega, HM.out, hk⟩
      · have hmb : ((m : Int) == 0) = false := by rw [beq_eq_false_iff_ne]; omega
        by_cases hz : 10 < s.size
        · have hmin : min (s.size : Int) 10 = 10 := by omega
          go_wp2
          go_quiet (fail)
          clear hmin
          have hx : (s.extract 0 10).size ≤ 10 := by rw [ByteArray.size_extract]; omega
          generalize s.extract 0 10 = x at *
          clear cs cc em
          have hkd := Kept.drewN wr nq
          have hkW : Kept w (wr.drewN nq) := hk.trans hkd
          have HCW : Hid (Ch (wr.drewN nq) l u5) := Ch.kept hkd _ _ HCH.out
          have HNW : Hid (NumI (wr.drewN nq) l g cap1) := HN.out.kept hkd
          generalize wr.drewN nq = W at *
          clear hkd HCH HN
          go_wp2_with (first
            | (go_at_call 15; refine (new_walk _ _ _ HSH.out _ hmb).mono ?_; rintro e w' ⟨rfl, rfl⟩)
            | (at_builtin; refine wpList_append_own _ rfl _ _ 25 rfl (W.heap.size + 1) 3 i0 (.int .i64 0) 1 8 Tryd.underlying25 hi hz0 hz1 hz2 rfl (by decide) (.slice (some ⟨W.heap.size + 1, 0, none⟩) 1 1) 1 [.int .i64 m] rfl ?c0 ⟨g, 0, none⟩ l.length cap1 (codes l) rfl ?cl ?c1 ?c2 ?c3 ?c4 ?c5 ?_))
          case c0 => exact ⟨rfl, .inr ⟨W.heap.size + 1, 1, #[.int .i64 m], rfl, Nat.le_refl _, alloc_two W _ _, by omega, by unfold maxLen; omega, rfl, rfl⟩⟩
          case cl => simp [codes]
          case c1 =>
            intro j u hj
            obtain ⟨y, hy, rfl⟩ : ∃ y, l[j]? = some y ∧ .int .i64 y.c = u := by simpa [codes] using hj
            rw [add_zero_off]
            exact (((Kept.refl W).alloc _).alloc _).cell (HNW.out.at' j y hy)
          case c2 =>
            intro u hu
            obtain ⟨y, _, rfl⟩ : ∃ y, y ∈ l ∧ .int .i64 y.c = u := by simpa [codes] using hu
            rfl
          case c3 => unfold maxLen; omega
          case c4 => omega
          case c5 => simp
          intro v1 w1 hown1 hgrow _
          have M := made_step hgrow hown1 HCW.out HNW.out
          obtain ⟨g1, cap2, rfl, hk1, hch1, hnum1⟩ := M
          have hkw1 : Kept w w1 := hkW.trans hk1
          have hd1 : Lds w1 := HD.out.kept hkw1
          have HC1 : Hid (Ch w1 (⟨W.heap.size, x, m⟩ :: l) (.iface 39 (.pointer (some ⟨W.heap.size, 0, none⟩)))) := hch1
          have HN1 : Hid (NumI w1 (⟨W.heap.size, x, m⟩ :: l) g1 cap2) := hnum1
          have HD1 : Hid (Lds w1) := hd1
          clear hgrow hown1 hch1 hnum1 hd1 hi hz0 hz1 hz2 HCW HNW
          have hi1 : (Lib.itoa (m : Int)).length ≤ 512 := by have := itoa_le (m : Int) (by omega); omega
          have hi2 : (⟨(Lib.itoa (m : Int)).toArray⟩ : ByteArray).size ≤ 512 := by show (List.toArray _).size ≤ 512; simpa using hi1
          have htz : t.size ≤ 10500 := by
            have h1 := txt_len l HM.out
            have h2 : t.size = (txt l).length := by rw [← HT.out, Array.length_toList]; rfl
            omega
          go_wp2_with (go_at_call 19; refine (itoa_k _ (by omega) (by omega) _ HD1.out).mono ?_; rintro e w2 ⟨rfl, hk2⟩)
          all_goals obtain ⟨q, rfl⟩ : ∃ q, gk = q + 1 := ⟨gk - 1, by omega⟩
          · have he : (!t.toList.isEmpty) = true := by assumption
            go_roundg q
            case measure => omega
            case rel => exact ⟨k + 1, ⟨W.heap.size, x, m⟩ :: l, g1, cap2, _, by omega, by go_num, by rw [List.length_cons, Nat.add_comm], rfl, Ch.kept hk2 _ _ HC1.out, HN1.out.kept hk2, text_more t x m _ l HT.out he, by simp; omega, small_more HM.out (by omega) (by omega) hx, hkw1.trans hk2⟩
          · have he : (!t.toList.isEmpty) = false := by assumption
            go_roundg q
            case measure => omega
            case rel => exact ⟨k + 1, ⟨W.heap.size, x, m⟩ :: l, g1, cap2, _, by omega, by go_num, by rw [List.length_cons, Nat.add_comm], rfl, Ch.kept hk2 _ _ HC1.out, HN1.out.kept hk2, text_one t x m _ l HT.out he, by simp; omega, small_more HM.out (by omega) (by omega) hx, hkw1.trans hk2⟩
        · have hmin : min (s.size : Int) 10 = s.size := by omega
          go_wp2
          go_quiet (fail)
          clear hmin
          have hx : s.size ≤ 10 := by omega
          generalize s = x at *
          clear cs cc em
          have hkd := Kept.drewN wr nq
          have hkW : Kept w (wr.drewN nq) := hk.trans hkd
          have HCW : Hid (Ch (wr.drewN nq) l u5) := Ch.kept hkd _ _ HCH.out
          have HNW : Hid (NumI (wr.drewN nq) l g cap1) := HN.out.kept hkd
          generalize wr.drewN nq = W at *
          clear hkd HCH HN
          go_wp2_with (first
            | (go_at_call 15; refine (new_walk _ _ _ HSH.out _ hmb).mono ?_; rintro e w' ⟨rfl, rfl⟩)
            | (at_builtin; refine wpList_append_own _ rfl _ _ 25 rfl (W.heap.size + 1) 3 i0 (.int .i64 0) 1 8 Tryd.underlying25 hi hz0 hz1 hz2 rfl (by decide) (.slice (some ⟨W.heap.size + 1, 0, none⟩) 1 1) 1 [.int .i64 m] rfl ?c0 ⟨g, 0, none⟩ l.length cap1 (codes l) rfl ?cl ?c1 ?c2 ?c3 ?c4 ?c5 ?_))
          case c0 => exact ⟨rfl, .inr ⟨W.heap.size + 1, 1, #[.int .i64 m], rfl, Nat.le_refl _, alloc_two W _ _, by omega, by unfold maxLen; omega, rfl, rfl⟩⟩
          case cl => simp [codes]
          case c1 =>
            intro j u hj
            obtain ⟨y, hy, rfl⟩ : ∃ y, l[j]? = some y ∧ .int .i64 y.c = u := by simpa [codes] using hj
            rw [add_zero_off]
            exact (((Kept.refl W).alloc _).alloc _).cell (HNW.out.at' j y hy)
          case c2 =>
            intro u hu
            obtain ⟨y, _, rfl⟩ : ∃ y, y ∈ l ∧ .int .i64 y.c = u := by simpa [codes] using hu
            rfl
          case c3 => unfold maxLen; omega
          case c4 => omega
          case c5 => simp
          intro v1 w1 hown1 hgrow _
          have M := made_step hgrow hown1 HCW.out HNW.out
          obtain ⟨g1, cap2, rfl, hk1, hch1, hnum1⟩ := M
          have hkw1 : Kept w w1 := hkW.trans hk1
          have hd1 : Lds w1 := HD.out.kept hkw1
          have HC1 : Hid (Ch w1 (⟨W.heap.size, x, m⟩ :: l) (.iface 39 (.pointer (some ⟨W.heap.size, 0, none⟩)))) := hch1
          have HN1 : Hid (NumI w1 (⟨W.heap.size, x, m⟩ :: l) g1 cap2) := hnum1
          have HD1 : Hid (Lds w1) := hd1
          clear hgrow hown1 hch1 hnum1 hd1 hi hz0 hz1 hz2 HCW HNW
          have hi1 : (Lib.itoa (m : Int)).length ≤ 512 := by have := itoa_le (m : Int) (by omega); omega
          have hi2 : (⟨(Lib.itoa (m : Int)).toArray⟩ : ByteArray).size ≤ 512 := by show (List.toArray _).size ≤ 512; simpa using hi1
          have htz : t.size ≤ 10500 := by
            have h1 := txt_len l HM.out
            have h2 : t.size = (txt l).length := by rw [← HT.out, Array.length_toList]; rfl
            omega
          go_wp2_with (go_at_call 19; refine (itoa_k _ (by omega) (by omega) _ HD1.out).mono ?_; rintro e w2 ⟨rfl, hk2⟩)
          all_goals obtain ⟨q, rfl⟩ : ∃ q, gk = q + 1 := ⟨gk - 1, by omega⟩
          · have he : (!t.toList.isEmpty) = true := by assumption
            go_roundg q
            case measure => omega
            case rel => exact ⟨k + 1, ⟨W.heap.size, x, m⟩ :: l, g1, cap2, _, by omega, by go_num, by rw [List.length_cons, Nat.add_comm], rfl, Ch.kept hk2 _ _ HC1.out, HN1.out.kept hk2, text_more t x m _ l HT.out he, by simp; omega, small_more HM.out (by omega) (by omega) hx, hkw1.trans hk2⟩
          · have he : (!t.toList.isEmpty) = false := by assumption
            go_roundg q
            case measure => omega
            case rel => exact ⟨k + 1, ⟨W.heap.size, x, m⟩ :: l, g1, cap2, _, by omega, by go_num, by rw [List.length_cons, Nat.add_comm], rfl, Ch.kept hk2 _ _ HC1.out, HN1.out.kept hk2, text_one t x m _ l HT.out he, by simp; omega, small_more HM.out (by omega) (by omega) hx, hkw1.trans hk2⟩
    · have hout : (k : Int) < (n : Int) → ¬ ((k : Int) < 20) := fun h => by omega
      have hk20 : k ≤ 20 := by omega
      by_cases hkn : k < n
      · have hk2 : ¬ ((k : Int) < 20) := hout (by omega)
        clear hout
        go_wp2
        go_ret3
        exact ⟨l, _, _, _, _, rfl, HCH.out, HN.out, HT.out, by omega, HM.out, hk⟩
      · clear hout
        go_wp2
        go_ret3
        exact ⟨l, _, _, _, _, rfl, HCH.out, HN.out, HT.out, by omega, HM.out, hk⟩
end Go.Proofs.YtbdlobmciemadaaDoor
