/- The walk of the statement's Put of a key that has nothing. Conditions: those that each row names. -/
import Derived.Test.YtpefmoddglpbfaaKD
namespace Go.Proofs.Ytpefmoddglpbfaa.Q
open Go.ChangeShapes Go.WideShapes Go.ChangeAt Go.RowKit
open N (Kept)
variable {E : Nat → Prop}

theorem one_cellA (w : World) (v : Value) (t : TypeId) : ∀ (j : Nat) (u : Value), [v][j]? = some u → (w.alloc (.cells #[v] t)).cell? ((⟨w.heap.size, 0, none⟩ : Addr).add j) = some u := by
  intro j u hj
  rw [Addr.add_lit, Nat.zero_add, cell_of_row _ _ _ _ _ _ (heap_alloc_new w (.cells #[v] t))]
  simpa using hj
theorem one_str (s : ByteArray) : ∀ u ∈ [Value.string s], u.oneCell' = true := by
  intro u hu; simp at hu; subst hu; rfl
theorem kept_cells {w w' : World} (h : Kept w w') {a : Addr} {l : List Value} (k : ∀ (j : Nat) (u : Value), l[j]? = some u → w.cell? (a.add j) = some u) : ∀ (j : Nat) (u : Value), l[j]? = some u → w'.cell? (a.add j) = some u :=
  fun j u hj => kept_cell h (k j u hj)
theorem own_blk {p : Option Addr} {n c : Nat} : (Value.slice p n c).ownBlock = p.map Addr.block := by cases p <;> rfl

/-- Behind the first append of two. -/
structure Mid (wr w1 : World) (B b i : Nat) (M : List (ByteArray × ByteArray)) (p q : Option Addr) (c d g1 cap1 : Nat) (k : ByteArray) : Prop where
  low : Below B wr w1
  oth : ∀ (n : Nat) (o : Obj), wr.heap[n]? = some o → (∀ a, p = some a → n ≠ a.block) → w1.heap[n]? = some o
  o1 : Own w1 B (some ⟨g1, 0, none⟩) (i + 1) cap1 (M.map Prod.fst ++ [k])
  far : ∀ a, q = some a → a.block ≠ g1
  size : wr.heap.size ≤ w1.heap.size
  loc : (∃ a, p = some a ∧ g1 = a.block) ∨ wr.heap.size ≤ g1
theorem Km.mid {wr W w1 : World} {B b i : Nat} {M : List (ByteArray × ByteArray)} {p q : Option Addr} {c d g1 cap1 : Nat} {k : ByteArray} (h : Km E wr B b i M p q c d) (hB : B ≤ wr.heap.size) (kW : Kept wr W)
    (o1 : w1.ownsRow B 9 1 (.slice (some ⟨g1, 0, none⟩) (i + 1) cap1) (i + 1) (sc (M.map Prod.fst) ++ [.string k])) (gr : W.grownBy w1 (Value.slice p i c).ownBlock) (l1 : (Value.slice p i c).ownBlock = some g1 ∨ g1 = W.heap.size) :
    Mid wr w1 B b i M p q c d g1 cap1 k := by
  rw [own_blk] at gr l1
  have hp : ∀ a, p = some a → B ≤ a.block := fun a ha => by have := h.ks; rw [ha] at this; exact this.blk.1
  refine ⟨(kW.out.mono hB).trans ⟨gr.os, gr.tape, gr.output, gr.size, fun n hn => gr.block n (by have := kW.size; omega) (fun e => ?_)⟩, ?_, ⟨by rw [sc_append]; exact o1⟩, ?_, Nat.le_trans kW.size gr.size, ?_⟩
  · cases p with
    | none => cases e
    | some a => injection e with e; have := hp a rfl; omega
  · intro n o hn hne
    have h1 := kW.block hn
    refine (gr.block n (Array.getElem?_eq_some_iff.1 h1).1 (fun e => ?_)).trans h1
    cases p with
    | none => cases e
    | some a => injection e with e; exact hne a rfl e
  · intro a ha e
    have hq : a.block < wr.heap.size := by
      have := h.ts; rw [ha] at this
      obtain ⟨_, cs, h2⟩ := this.blk
      exact (Array.getElem?_eq_some_iff.1 h2).1
    rcases l1 with l1 | l1
    · cases p with
      | none => cases l1
      | some z => injection l1 with l1; exact h.apart z a rfl ha (by omega)
    · have := kW.size; omega
  · rcases l1 with l1 | l1
    · cases p with
      | none => cases l1
      | some z => injection l1 with l1; exact .inl ⟨z, rfl, l1.symm⟩
    · exact .inr (by have := kW.size; omega)
theorem Km.bne {wr : World} {B b i : Nat} {M : List (ByteArray × ByteArray)} {p q : Option Addr} {c d : Nat} (h : Km E wr B b i M p q c d) : (∀ a, p = some a → b ≠ a.block) ∧ (∀ a, q = some a → b ≠ a.block) := by
  have hb := h.at'
  constructor
  · rintro a rfl e
    obtain ⟨_, cs, h2⟩ := h.ks.blk
    rw [← e, hb] at h2
    injection h2 with h2
    injection h2 with _ h3
    exact absurd h3 (by decide)
  · rintro a rfl e
    obtain ⟨_, cs, h2⟩ := h.ts.blk
    rw [← e, hb] at h2
    injection h2 with h2
    injection h2 with _ h3
    exact absurd h3 (by decide)
theorem Mid.at' {wr w1 : World} {B b i : Nat} {M : List (ByteArray × ByteArray)} {p q : Option Addr} {c d g1 cap1 : Nat} {k : ByteArray} (m : Mid wr w1 B b i M p q c d g1 cap1 k) (h : Km E wr B b i M p q c d) :
    w1.heap[b]? = some (.cells #[.slice p i c, .slice q i d] 41) := m.oth _ _ h.at' h.bne.1
theorem Mid.ts {wr w1 : World} {B b i : Nat} {M : List (ByteArray × ByteArray)} {p q : Option Addr} {c d g1 cap1 : Nat} {k : ByteArray} (m : Mid wr w1 B b i M p q c d g1 cap1 k) (h : Km E wr B b i M p q c d) : Own w1 B q i d (M.map Prod.snd) := by
  refine h.ts.far fun a ha => ?_
  have := h.ts
  rw [ha] at this
  obtain ⟨_, cs, h2⟩ := this.blk
  exact (m.oth _ _ h2 (fun z hz e => h.apart z a hz ha e.symm)).trans h2.symm
theorem Mid.c1 {wr w1 : World} {B b i : Nat} {M : List (ByteArray × ByteArray)} {p q : Option Addr} {c d g1 cap1 : Nat} {k : ByteArray} (m : Mid wr w1 B b i M p q c d g1 cap1 k) (h : Km E wr B b i M p q c d) : w1.cell? ⟨b, 1, none⟩ = some (.slice q i d) := by
  rw [cell_of_row w1 b 1 _ _ _ (m.at' h)]; rfl

theorem got_snoc {M : List (ByteArray × ByteArray)} {k t : ByteArray} (hl : ∀ e ∈ M, e.1 ≠ k) (x : ByteArray) : put (fun k => got k M) k t x = got x (M ++ [(k, t)]) := by
  rw [got_append]
  by_cases e : x = k
  · subst e; rw [put_eq, got_no hl, got_cons_eq]; rfl
  · rw [put_ne _ _ e, got_cons_ne (fun e2 => e e2.symm)]
    show _ = (got x M).or (got x [])
    rw [show got x [] = none from rfl, Option.or_none]
/-- Behind the second one. -/
theorem Mid.fin {wr w1 W w2 : World} {B b i : Nat} {M : List (ByteArray × ByteArray)} {p q : Option Addr} {c d g1 cap1 g2 cap2 : Nat} {k t : ByteArray} (m : Mid wr w1 B b i M p q c d g1 cap1 k) (h : Km E wr B b i M p q c d) (hB : B ≤ wr.heap.size) (hl : ∀ e ∈ M, e.1 ≠ k) (kW : Kept w1 W)
    (o2 : w2.ownsRow B 9 1 (.slice (some ⟨g2, 0, none⟩) (i + 1) cap2) (i + 1) (sc (M.map Prod.snd) ++ [.string t])) (gr : W.grownBy w2 (Value.slice q i d).ownBlock) (l2 : (Value.slice q i d).ownBlock = some g2 ∨ g2 = W.heap.size) :
    w2.heap[b]? = some (.cells #[.slice p i c, .slice q i d] 41) ∧
    Kv E ((w2.setCell ⟨b, 0, none⟩ (.slice (some ⟨g1, 0, none⟩) (i + 1) cap1)).setCell ⟨b, 1, none⟩ (.slice (some ⟨g2, 0, none⟩) (i + 1) cap2)) B b (i + 1) (put (fun k => got k M) k t) ∧
    Vn E B wr ((w2.setCell ⟨b, 0, none⟩ (.slice (some ⟨g1, 0, none⟩) (i + 1) cap1)).setCell ⟨b, 1, none⟩ (.slice (some ⟨g2, 0, none⟩) (i + 1) cap2)) := by
  rw [own_blk] at gr l2
  have hq : ∀ a, q = some a → B ≤ a.block := fun a ha => by have := h.ts; rw [ha] at this; exact this.blk.1
  have st : ∀ (n : Nat) (o : Obj), w1.heap[n]? = some o → (∀ a, q = some a → n ≠ a.block) → w2.heap[n]? = some o := by
    intro n o hn hne
    have h1 := kW.block hn
    refine (gr.block n (Array.getElem?_eq_some_iff.1 h1).1 (fun e => ?_)).trans h1
    cases q with
    | none => cases e
    | some a => injection e with e; exact hne a rfl e
  have hb2 := st _ _ (m.at' h) h.bne.2
  have low2 : Below B wr w2 := m.low.trans ((kW.out.mono (Nat.le_trans hB m.size)).trans ⟨gr.os, gr.tape, gr.output, gr.size, fun n hn => gr.block n (by have := kW.size; have := m.size; omega) (fun e => by
    cases q with
    | none => cases e
    | some a => injection e with e; have := hq a rfl; omega)⟩)
  obtain ⟨_, cs1, hg1⟩ := m.o1.blk
  simp only at hg1
  have hg1' := st g1 _ hg1 (fun a ha e => m.far a ha e.symm)
  have hg12 : g1 ≠ g2 := by
    intro e
    rcases l2 with l2 | l2
    · cases q with
      | none => cases l2
      | some z => injection l2 with l2; exact m.far z rfl (by omega)
    · have := (Array.getElem?_eq_some_iff.1 hg1).1
      have := kW.size
      omega
  have O2 : Own w2 B (some ⟨g2, 0, none⟩) (i + 1) cap2 (M.map Prod.snd ++ [t]) := ⟨by rw [sc_append]; exact o2⟩
  obtain ⟨_, cs2, hg2⟩ := O2.blk
  simp only at hg2
  have e1 : (w2.setCell ⟨b, 0, none⟩ (.slice (some ⟨g1, 0, none⟩) (i + 1) cap1)).heap[b]? = some (.cells #[.slice (some ⟨g1, 0, none⟩) (i + 1) cap1, .slice q i d] 41) := by
    rw [heap_setCell_same _ b 0 _ _ _ hb2]; rfl
  have oth : ∀ n, n ≠ b → ((w2.setCell ⟨b, 0, none⟩ (.slice (some ⟨g1, 0, none⟩) (i + 1) cap1)).setCell ⟨b, 1, none⟩ (.slice (some ⟨g2, 0, none⟩) (i + 1) cap2)).heap[n]? = w2.heap[n]? := fun n hn =>
    (heap_setCell_other _ ⟨b, 1, none⟩ n _ hn).trans (heap_setCell_other _ ⟨b, 0, none⟩ n _ hn)
  have nb : ∀ g cs, w2.heap[g]? = some (.cells cs 9) → g ≠ b := by
    intro g cs hg e
    rw [e, hb2] at hg
    injection hg with hg
    injection hg with _ h3
    exact absurd h3 (by decide)
  refine ⟨hb2, ⟨M ++ [(k, t)], some ⟨g1, 0, none⟩, some ⟨g2, 0, none⟩, cap1, cap2, ⟨?_, ?_, ?_, ?_, h.big, ?_, ?_⟩, fun x => got_snoc hl x⟩, ⟨(low2.setCell (p := ⟨b, 0, none⟩) h.big _).setCell (p := ⟨b, 1, none⟩) h.big _, ?_⟩⟩
  · rw [heap_setCell_same _ b 1 _ _ _ e1]; rfl
  · rw [List.map_append]
    refine m.o1.far fun a ha => ?_
    injection ha with ha
    subst ha
    exact (oth g1 (nb g1 _ hg1')).trans (hg1'.trans hg1.symm)
  · rw [List.map_append]
    refine O2.far fun a ha => ?_
    injection ha with ha
    subst ha
    exact oth g2 (nb g2 _ hg2)
  · intro x y hx hy
    injection hx with hx
    injection hy with hy
    subst hx
    subst hy
    exact hg12
  · rw [List.map_append, List.nodup_append]
    refine ⟨h.nd, by simp, fun a ha b' hb' e => ?_⟩
    simp at hb'
    subst hb'
    obtain ⟨z, hz, hz2⟩ := List.mem_map.1 ha
    exact hl z hz (hz2.trans e)
  · intro x hx
    obtain ⟨x1, x2, x3, x4⟩ := h.ex x hx
    refine ⟨x1, fun a ha e => ?_, fun a ha e => ?_, Nat.lt_of_lt_of_le x4 ((low2.setCell (p := ⟨b, 0, none⟩) h.big _).setCell (p := ⟨b, 1, none⟩) h.big _).size⟩
    · injection ha with ha
      subst ha
      simp only at e
      rcases m.loc with ⟨z, hz, e2⟩ | e2
      · exact x2 z hz (e.trans e2)
      · omega
    · injection ha with ha
      subst ha
      simp only at e
      rcases l2 with l2 | l2
      · cases q with
        | none => cases l2
        | some z => injection l2 with l2; exact x3 z rfl (by omega)
      · have := kW.size
        have := m.size
        omega
  · intro n o hn h1
    have hnb : n ≠ b := by
      rcases h1 with h1 | h1
      · intro e
        rw [e, h.at'] at hn
        injection hn with hn
        exact (h1 _ _ _ hn.symm).2 rfl
      · exact (h.ex n h1).1
    rw [oth n hnb]
    have np : ∀ (r : Option Addr) (l : List ByteArray) (z : Nat), Own wr B r i z l → (E n → ∀ a, r = some a → n ≠ a.block) → ∀ a, r = some a → n ≠ a.block := by
      rintro r l z ho he a rfl e
      rcases h1 with h1 | h1
      · obtain ⟨_, cs', h3⟩ := ho.blk
        rw [← e, hn] at h3
        injection h3 with h3
        exact (h1 _ _ _ h3).1 rfl
      · exact he h1 a rfl e
    exact st _ _ (m.oth _ _ hn (np p _ _ h.ks fun h1 => (h.ex n h1).2.1)) (np q _ _ h.ts fun h1 => (h.ex n h1).2.2.1)

/-- What a walk need not see. -/
structure Hd2 (p : Prop) : Prop where
  out : p
theorem Km.news {wr W w1 : World} {B b i x : Nat} {M : List (ByteArray × ByteArray)} {p q : Option Addr} {c d : Nat} {l : List Value} (h : Km E wr B b i M p q c d) (gr : W.grownBy w1 (Value.slice p i c).ownBlock) (hx : wr.heap.size ≤ x)
    (hn : ∀ (j : Nat) (u : Value), l[j]? = some u → W.cell? ((⟨x, 0, none⟩ : Addr).add j) = some u) : ∀ (j : Nat) (u : Value), l[j]? = some u → w1.cell? ((⟨x, 0, none⟩ : Addr).add j) = some u := by
  intro j u hj
  have h1 := hn j u hj
  rw [Addr.add_lit] at h1 ⊢
  have h2 := World.block_lt_of_cell? W _ h1
  rw [own_blk] at gr
  refine (World.cell?_of_block (gr.block x h2 fun e => ?_)).trans h1
  cases p with
  | none => cases e
  | some a =>
    injection e with e
    obtain ⟨_, cs, h3⟩ := h.ks.blk
    have := (Array.getElem?_eq_some_iff.1 h3).1
    omega

set_option maxRecDepth 100000 in
set_option maxHeartbeats 4000000 in
theorem put_new {w : World} {B b m : Nat} {M : List (ByteArray × ByteArray)} {p q : Option Addr} {c d : Nat} (h : Km E w B b m M p q c d) (hm : m ≤ 100000) (hB : B ≤ w.heap.size) (k t : ByteArray) (hl : ∀ e ∈ M, e.1 ≠ k) :
    Calls Try.prog 41 #[.pointer (some ⟨b, 0, none⟩), .string k, .string t] w fun e w' => e = .returned (.int .i64 0) ∧ Kv E w' B b (m + 1) (put (fun k => got k M) k t) ∧ Vn E B w w' := by
  obtain ⟨i0, hi0, hz0, hz1, hz2⟩ := info_parts info9
  have HL : Hid (M.length = m) := h.len
  have c0 := h.c0
  have c1 := h.c1
  have sm := h.ks.small
  have sm2 := h.ts.small
  have H : Hid (Km E w B b m M p q c d) := h
  have HA : Hid (∀ e ∈ M, e.1 ≠ k) := hl
  have HB : Hid (B ≤ w.heap.size) := hB
  clear h hl hB
  go_enter Try.func41, Try.ntmps41
  go_wp2
  go_loopg [7] m (fun gg iv wx => ∃ i : Nat, iv = .int .i64 (i : Nat) ∧ Hid (gg = m - i) ∧ i ≤ m ∧ wx = w)
  case atStart => exact ⟨0, rfl, rfl, Nat.zero_le _, rfl⟩
  case round =>
    obtain ⟨i, rfl, hg, hin, hw⟩ := hrel
    subst hw
    by_cases h1 : (i : Int) < (m : Int)
    · obtain ⟨y, hy⟩ : ∃ y, M[i]? = some y := ⟨_, List.getElem?_eq_getElem (by rw [HL.out]; omega)⟩
      have he : ¬ y.1 = k := HA.out y (List.mem_of_getElem? hy)
      obtain ⟨z, z', f1, f2, b1, b2, _⟩ := H.out.at hy
      subst f1
      subst f2
      have he' : (y.1.toList == k.toList) = false := by rw [seq_iff]; simpa using he
      clear hy he
      go_wp2
      go_roundg (m - (i + 1))
      case measure => rw [hg.out]; omega
      case rel => exact ⟨i + 1, by go_num, rfl, by omega, rfl⟩
    · obtain rfl : i = m := by omega
      clear h1 hg hin
      have d0 := fun o => kept_cell ((Kept.refl wr).alloc o) c0
      have d1 := fun o => kept_cell ((Kept.refl wr).alloc o) c1
      have dd1 := fun o o' => kept_cell (((Kept.refl wr).alloc o).alloc o') c1
      have dd0 := fun o o' => kept_cell (((Kept.refl wr).alloc o).alloc o') c0
      have kA : Kept wr (wr.alloc (.cells #[.string k] 9)).drew := ((Kept.refl wr).alloc _).drew
      have kB : Kept wr ((wr.alloc (.cells #[.string k] 9)).alloc (.cells #[.string t] 9)).drew := (((Kept.refl wr).alloc _).alloc _).drew
      have kC : Kept wr ((wr.alloc (.cells #[.string t] 9)).alloc (.cells #[.string k] 9)).drew := (((Kept.refl wr).alloc _).alloc _).drew
      have sz1 : ∀ o, (wr.alloc o).heap.size = wr.heap.size + 1 := size_alloc wr
      have nA : ∀ (j : Nat) (u : Value), [Value.string k][j]? = some u → (wr.alloc (.cells #[.string k] 9)).drew.cell? ((⟨wr.heap.size, 0, none⟩ : Addr).add j) = some u := kept_cells (Kept.refl _).drew (one_cellA wr _ _)
      have nB : ∀ (j : Nat) (u : Value), [Value.string k][j]? = some u → ((wr.alloc (.cells #[.string k] 9)).alloc (.cells #[.string t] 9)).drew.cell? ((⟨wr.heap.size, 0, none⟩ : Addr).add j) = some u := kept_cells ((Kept.refl _).alloc _).drew (one_cellA wr _ _)
      have nC : ∀ (j : Nat) (u : Value), [Value.string k][j]? = some u → ((wr.alloc (.cells #[.string t] 9)).alloc (.cells #[.string k] 9)).drew.cell? ((⟨wr.heap.size + 1, 0, none⟩ : Addr).add j) = some u := kept_cells (Kept.refl _).drew (by have := one_cellA (wr.alloc (.cells #[.string t] 9)) (.string k) 9; rwa [size_alloc] at this)
      have tB : ∀ (j : Nat) (u : Value), [Value.string t][j]? = some u → ((wr.alloc (.cells #[.string k] 9)).alloc (.cells #[.string t] 9)).drew.cell? ((⟨wr.heap.size + 1, 0, none⟩ : Addr).add j) = some u := kept_cells (Kept.refl _).drew (by have := one_cellA (wr.alloc (.cells #[.string k] 9)) (.string t) 9; rwa [size_alloc] at this)
      have tC : ∀ (j : Nat) (u : Value), [Value.string t][j]? = some u → ((wr.alloc (.cells #[.string t] 9)).alloc (.cells #[.string k] 9)).drew.cell? ((⟨wr.heap.size, 0, none⟩ : Addr).add j) = some u := kept_cells ((Kept.refl _).alloc _).drew (one_cellA wr _ _)
      have HN : Hid ((∀ (j : Nat) (u : Value), [Value.string k][j]? = some u → (wr.alloc (.cells #[.string k] 9)).drew.cell? ((⟨wr.heap.size, 0, none⟩ : Addr).add j) = some u) ∧ (∀ (j : Nat) (u : Value), [Value.string k][j]? = some u → ((wr.alloc (.cells #[.string k] 9)).alloc (.cells #[.string t] 9)).drew.cell? ((⟨wr.heap.size, 0, none⟩ : Addr).add j) = some u) ∧ (∀ (j : Nat) (u : Value), [Value.string k][j]? = some u → ((wr.alloc (.cells #[.string t] 9)).alloc (.cells #[.string k] 9)).drew.cell? ((⟨wr.heap.size + 1, 0, none⟩ : Addr).add j) = some u)) := ⟨nA, nB, nC⟩
      have HT : Hid ((∀ (j : Nat) (u : Value), [Value.string t][j]? = some u → ((wr.alloc (.cells #[.string k] 9)).alloc (.cells #[.string t] 9)).drew.cell? ((⟨wr.heap.size + 1, 0, none⟩ : Addr).add j) = some u) ∧ (∀ (j : Nat) (u : Value), [Value.string t][j]? = some u → ((wr.alloc (.cells #[.string t] 9)).alloc (.cells #[.string k] 9)).drew.cell? ((⟨wr.heap.size, 0, none⟩ : Addr).add j) = some u)) := ⟨tB, tC⟩
      clear nA nB nC tB tC sz1
      go_wp2_with fail
      go_region_law (first
        | (refine step_append_any (by rfl) _ _ 39 (by rfl) B 9 i0 _ 1 16 Try.underlying39 hi0 hz0 hz1 hz2 (by rfl) (by decide) (.slice p i c) i (sc (M.map Prod.fst)) (by rfl) (H.out.ks.kept kA).out ⟨wr.heap.size, 0, none⟩ 1 1 [.string k] (by rfl) (by rfl) HN.out.1 (one_str k) (.inr (by decide)) (by unfold maxLen; omega) (by omega) (by have := HB.out; have := kA.size; omega) _ rfl ?_
           intro g1 cap1 w1 o1 gr1 l1
           have MD : Hid (Mid wr w1 B b i M p q c d g1 cap1 k) := H.out.mid HB.out kA o1 gr1 l1
           have e1 := MD.out.c1 H.out
           have e2 := fun o => kept_cell ((Kept.refl w1).alloc o) e1
           have NT := one_cellA w1 (.string t) 9
           clear o1 gr1 l1)
        | (refine step_append_any (by rfl) _ _ 39 (by rfl) B 9 i0 _ 1 16 Try.underlying39 hi0 hz0 hz1 hz2 (by rfl) (by decide) (.slice p i c) i (sc (M.map Prod.fst)) (by rfl) (H.out.ks.kept kB).out ⟨wr.heap.size, 0, none⟩ 1 1 [.string k] (by rfl) (by rfl) HN.out.2.1 (one_str k) (.inr (by decide)) (by unfold maxLen; omega) (by omega) (by have := HB.out; have := kB.size; omega) _ rfl ?_
           intro g1 cap1 w1 o1 gr1 l1
           have MD : Hid (Mid wr w1 B b i M p q c d g1 cap1 k) := H.out.mid HB.out kB o1 gr1 l1
           have e1 := MD.out.c1 H.out
           have e2 := fun o => kept_cell ((Kept.refl w1).alloc o) e1
           have NT : Hid (∀ (j : Nat) (u : Value), [Value.string t][j]? = some u → w1.cell? ((⟨wr.heap.size + 1, 0, none⟩ : Addr).add j) = some u) := Km.news H.out gr1 (Nat.le_succ _) HT.out.1
           clear o1 gr1 l1)
        | (refine step_append_any (by rfl) _ _ 39 (by rfl) B 9 i0 _ 1 16 Try.underlying39 hi0 hz0 hz1 hz2 (by rfl) (by decide) (.slice p i c) i (sc (M.map Prod.fst)) (by rfl) (H.out.ks.kept kC).out ⟨wr.heap.size + 1, 0, none⟩ 1 1 [.string k] (by rfl) (by rfl) HN.out.2.2 (one_str k) (.inr (by decide)) (by unfold maxLen; omega) (by omega) (by have := HB.out; have := kC.size; omega) _ rfl ?_
           intro g1 cap1 w1 o1 gr1 l1
           have MD : Hid (Mid wr w1 B b i M p q c d g1 cap1 k) := H.out.mid HB.out kC o1 gr1 l1
           have e1 := MD.out.c1 H.out
           have e2 := fun o => kept_cell ((Kept.refl w1).alloc o) e1
           have NT : Hid (∀ (j : Nat) (u : Value), [Value.string t][j]? = some u → w1.cell? ((⟨wr.heap.size, 0, none⟩ : Addr).add j) = some u) := Km.news H.out gr1 (Nat.le_refl _) HT.out.2
           clear o1 gr1 l1)
        | (refine step_append_any (by rfl) _ _ 39 (by rfl) B 9 i0 _ 1 16 Try.underlying39 hi0 hz0 hz1 hz2 (by rfl) (by decide) (.slice q i d) i (sc (M.map Prod.snd)) (by rfl) ((MD.out.ts H.out).kept ((Kept.refl w1).alloc (.cells #[.string t] 9))).out ⟨w1.heap.size, 0, none⟩ 1 1 [.string t] (by rfl) (by rfl) NT (one_str t) (.inr (by decide)) (by unfold maxLen; omega) (by omega) (by have h1 := HB.out; have h2 := MD.out.size; have h3 := ((Kept.refl w1).alloc (.cells #[.string t] 9)).size; omega) _ rfl ?_
           intro g2 cap2 w2 o2 gr2 l2
           obtain ⟨x1, x2⟩ := MD.out.fin H.out HB.out HA.out ((Kept.refl w1).alloc (.cells #[.string t] 9)) o2 gr2 l2
           have FI := (⟨x2⟩ : Hd2 _)
           have y0 := frozen_of_row w2 b 0 _ _ x1
           have y1 := frozen_of_row w2 b 1 _ _ x1
           have y2 : w2.cell? ⟨b, 0, none⟩ = some (.slice p i c) := by rw [cell_of_row w2 b 0 _ _ _ x1]; rfl
           have y3 : w2.cell? ⟨b, 1, none⟩ = some (.slice q i d) := by rw [cell_of_row w2 b 1 _ _ _ x1]; rfl
           clear o2 gr2 l2 x1 x2 e1 e2)
        | (refine step_append_any (by rfl) _ _ 39 (by rfl) B 9 i0 _ 1 16 Try.underlying39 hi0 hz0 hz1 hz2 (by rfl) (by decide) (.slice q i d) i (sc (M.map Prod.snd)) (by rfl) (MD.out.ts H.out).out ⟨wr.heap.size + 1, 0, none⟩ 1 1 [.string t] (by rfl) (by rfl) NT.out (one_str t) (.inr (by decide)) (by unfold maxLen; omega) (by omega) (by have h1 := HB.out; have h2 := MD.out.size; have h3 := (Kept.refl w1).size; omega) _ rfl ?_
           intro g2 cap2 w2 o2 gr2 l2
           obtain ⟨x1, x2⟩ := MD.out.fin H.out HB.out HA.out (Kept.refl w1) o2 gr2 l2
           have FI := (⟨x2⟩ : Hd2 _)
           have y0 := frozen_of_row w2 b 0 _ _ x1
           have y1 := frozen_of_row w2 b 1 _ _ x1
           have y2 : w2.cell? ⟨b, 0, none⟩ = some (.slice p i c) := by rw [cell_of_row w2 b 0 _ _ _ x1]; rfl
           have y3 : w2.cell? ⟨b, 1, none⟩ = some (.slice q i d) := by rw [cell_of_row w2 b 1 _ _ _ x1]; rfl
           clear o2 gr2 l2 x1 x2 e1 e2)
        | (refine step_append_any (by rfl) _ _ 39 (by rfl) B 9 i0 _ 1 16 Try.underlying39 hi0 hz0 hz1 hz2 (by rfl) (by decide) (.slice q i d) i (sc (M.map Prod.snd)) (by rfl) (MD.out.ts H.out).out ⟨wr.heap.size, 0, none⟩ 1 1 [.string t] (by rfl) (by rfl) NT.out (one_str t) (.inr (by decide)) (by unfold maxLen; omega) (by omega) (by have h1 := HB.out; have h2 := MD.out.size; have h3 := (Kept.refl w1).size; omega) _ rfl ?_
           intro g2 cap2 w2 o2 gr2 l2
           obtain ⟨x1, x2⟩ := MD.out.fin H.out HB.out HA.out (Kept.refl w1) o2 gr2 l2
           have FI := (⟨x2⟩ : Hd2 _)
           have y0 := frozen_of_row w2 b 0 _ _ x1
           have y1 := frozen_of_row w2 b 1 _ _ x1
           have y2 : w2.cell? ⟨b, 0, none⟩ = some (.slice p i c) := by rw [cell_of_row w2 b 0 _ _ _ x1]; rfl
           have y3 : w2.cell? ⟨b, 1, none⟩ = some (.slice q i d) := by rw [cell_of_row w2 b 1 _ _ _ x1]; rfl
           clear o2 gr2 l2 x1 x2 e1 e2)
        | trace_state)
      all_goals (go_wp2; go_ret; exact ⟨rfl, FI.out⟩)
end Go.Proofs.Ytpefmoddglpbfaa.Q
