/- The walks of Of and With. Conditions: those that each row names. -/
import Derived.BigRegion
import Derived.Deep.CutRange
import Derived.Test.YtanccfbbaeocaaaLL
namespace Go.Proofs.Ytanccfbbaeocaaa.Bt
open Go.RowKit Go.Shelf

/-- What Of has in memory: the set that is made, and all else as it was. -/
structure Oo (W1 W : World) (n₀ B b4 : Nat) (q : Option Addr) (n c : Nat) (G : List Pt) : Prop where
  kb : Kb n₀ B b4 W1 W
  bm : W.heap[b4]? = some (.cells #[.slice q n c] 25)
  own : Own W B 42 2 q n c (pc G)
  big : B ≤ W.heap.size
  lt : n₀ ≤ b4 ∧ b4 < B
theorem Oo.len {W1 W : World} {n₀ B b4 : Nat} {q : Option Addr} {n c : Nat} {G : List Pt} (h : Oo W1 W n₀ B b4 q n c G) : G.length = n := by
  have := h.own.rw.len; rw [pc_length] at this; omega
theorem Oo.drew {W1 W : World} {n₀ B b4 : Nat} {q : Option Addr} {n c : Nat} {G : List Pt} (h : Oo W1 W n₀ B b4 q n c G) : Oo W1 W.drew n₀ B b4 q n c G :=
  ⟨h.kb.trans ⟨(Below.refl _ W).drew, fun _ _ _ => rfl⟩, h.bm, h.own.kept ((Kept.refl W).drew), h.big, h.lt⟩
theorem Oo.ptr {W1 W : World} {n₀ B b4 : Nat} {q : Option Addr} {n c : Nat} {G : List Pt} (h : Oo W1 W n₀ B b4 q n c G) (h0 : 0 < n) : ∃ g, q = some ⟨g, 0, none⟩ ∧ B ≤ g := by
  rcases h.own.out.2 with ⟨_, h1⟩ | ⟨g, cap, cur, h1, h2, _⟩
  · omega
  · cases h1; exact ⟨g, rfl, h2⟩
theorem Oo.cells {W1 W : World} {n₀ B b4 g j c a x : Nat} {G : List Pt} (h : Oo W1 W n₀ B b4 (some ⟨g, 0, none⟩) (j + 1) c (G ++ [(a, x)])) : G.length = j ∧ W.cell? ⟨b4, 0, none⟩ = some (.slice (some ⟨g, 0, none⟩) (j + 1) c) ∧ W.cell? ⟨g, j * 2, none⟩ = some (.int .i64 (a : Nat)) ∧ W.cell? ⟨g, j * 2 + 1, none⟩ = some (.int .u64 (x : Nat)) ∧ W.frozen? ⟨g, j * 2 + 1, none⟩ = false := by
  have hl := h.len
  simp at hl
  have hx : (G ++ [(a, x)])[j]? = some (a, x) := by rw [← hl]; simp
  obtain ⟨h1, h2⟩ := pc_at hx
  rcases h.own.rw.out with e | ⟨b, o, e, f⟩
  · exact absurd e (by omega)
  · cases e
    exact ⟨hl, by rw [cell_of_row _ _ 0 _ _ _ h.bm]; rfl, by have := f _ _ h1; rwa [Nat.zero_add] at this, by have := f _ _ h2; rwa [Nat.zero_add] at this, h.own.out.frozenAt _⟩
theorem pc_set (G : List Pt) (a x x' : Nat) : (pc (G ++ [(a, x)])).set (G.length * 2 + 1) (.int .u64 (x' : Nat)) = pc (G ++ [(a, x')]) := by
  rw [pc_append, pc_append, List.set_append_right _ _ (by rw [pc_length]; omega), pc_length]
  rw [show G.length * 2 + 1 - G.length * 2 = 1 by omega]
  rfl
theorem Oo.put {W1 W : World} {n₀ B b4 g j c a x : Nat} {G : List Pt} (h : Oo W1 W n₀ B b4 (some ⟨g, 0, none⟩) (j + 1) c (G ++ [(a, x)])) (x' : Nat) : Oo W1 (W.setCell ⟨g, j * 2 + 1, none⟩ (.int .u64 (x' : Nat))) n₀ B b4 (some ⟨g, 0, none⟩) (j + 1) c (G ++ [(a, x')]) := by
  obtain ⟨g', e, hB⟩ := h.ptr (by omega)
  cases e
  have hl := h.cells.1
  obtain ⟨r1, g1⟩ := h.own.out.stored (j * 2 + 1) (.int .u64 (x' : Nat))
  rw [← hl, pc_set, hl] at r1
  have hb := h.lt
  refine ⟨h.kb.trans ⟨(Below.refl _ W).setCell (p := ⟨g, j * 2 + 1, none⟩) (by show n₀ ≤ g; omega) _, fun b h1 _ => heap_setCell_other _ ⟨g, j * 2 + 1, none⟩ b _ (by show b ≠ g; omega)⟩, ?_, ⟨r1⟩, by have := h.big; simpa using this, h.lt⟩
  exact (heap_setCell_other _ ⟨g, j * 2 + 1, none⟩ b4 _ (by show b4 ≠ g; omega)).trans h.bm
theorem part_cells0 (w : World) (k : Nat) (t : TypeId) : ∀ j u, [Value.int .i64 (k : Nat), .int .u64 0][j]? = some u → (w.alloc (.cells #[.int .i64 (k : Nat), .int .u64 0] t)).cell? ((⟨w.heap.size, 0, none⟩ : Addr).add j) = some u := by
  intro j u hj
  rw [Addr.add_lit, Nat.zero_add, cell_of_row _ _ _ _ _ _ (heap_alloc_new w (.cells #[.int .i64 (k : Nat), .int .u64 0] t))]
  simpa using hj
theorem part_one0 (k : Nat) : ∀ u ∈ [Value.int .i64 (k : Nat), .int .u64 0], u.oneCell' = true := by
  intro u hu; simp at hu; rcases hu with rfl | rfl <;> rfl
theorem Oo.more {W1 W w1 : World} {n₀ B b4 : Nat} {q q1 : Option Addr} {n c c1 : Nat} {G : List Pt} {k : Nat} {tmp : Obj} (h : Oo W1 W n₀ B b4 q n c G)
    (o1 : w1.ownsRow B 42 2 (.slice q1 (n + 1) c1) (n + 1) (pc G ++ [.int .i64 (k : Nat), .int .u64 0])) (g1 : (W.alloc tmp).grownBy w1 (Value.slice q n c).ownBlock) :
    w1.heap[b4]? = some (.cells #[.slice q n c] 25) ∧ Oo W1 (w1.setCell ⟨b4, 0, none⟩ (.slice q1 (n + 1) c1)) n₀ B b4 q1 (n + 1) c1 (G ++ [(k, 0)]) := by
  have k0 : Kept W (W.alloc tmp) := (Kept.refl W).alloc tmp
  have ob := own_blk (h.own.kept k0)
  have hbig := h.big
  have hlt := h.lt
  have st : ∀ b, b < B → w1.heap[b]? = W.heap[b]? := fun b hb => (g1.block b (by have := k0.size; omega) (fun e => by have := (ob b e.symm).1; omega)).trans (k0.out.block b (by omega))
  have p1 := (st b4 hlt.2).trans h.bm
  have oth : ∀ k, k ≠ b4 → (w1.setCell ⟨b4, 0, none⟩ (.slice q1 (n + 1) c1)).heap[k]? = w1.heap[k]? := fun k hk => heap_setCell_other _ ⟨b4, 0, none⟩ k _ hk
  have low1 : Below n₀ W w1 := (k0.out.mono (by omega)).trans ⟨g1.os, g1.tape, g1.output, g1.size, fun i hi => g1.block i (by have := k0.size; omega) (fun e => by have := (ob i e.symm).1; omega)⟩
  have low2 : Below n₀ W (w1.setCell ⟨b4, 0, none⟩ (.slice q1 (n + 1) c1)) := low1.setCell (p := ⟨b4, 0, none⟩) hlt.1 _
  refine ⟨p1, ⟨h.kb.trans ⟨low2, fun b h1 h2 => (oth b h2).trans (st b h1)⟩, by rw [heap_setCell_same _ _ 0 _ _ _ p1]; rfl, ?_, Nat.le_trans hbig low2.size, hlt⟩⟩
  rw [pc_append]
  refine ⟨o1.1, o1.2.imp id ?_⟩
  rintro ⟨g, cap, cur, a, b, hg', r⟩
  exact ⟨g, cap, cur, a, b, (oth g (by omega)).trans hg', r⟩
theorem Oo.small {W1 W : World} {n₀ B b4 : Nat} {q : Option Addr} {n c : Nat} {G : List Pt} (h : Oo W1 W n₀ B b4 q n c G) : c ≤ 9223372036854775807 := h.own.rw.small
/-- Parts that may be. -/
def Wk (G : List Pt) : Prop := ∀ p ∈ G, p.1 < 16384 ∧ p.2 < 18446744073709551616
structure Wkk (G : List Pt) : Prop where
  out : Wk G
theorem Wkk.og {G : List Pt} (h : Wkk G) (z : Int) : Wkk (og G z) := by
  refine ⟨fun p hp => ?_⟩
  unfold Bt.og at hp
  split at hp
  · rename_i hz
    have hk : (z / 64).toNat < 16384 := by omega
    have hr := pw_lt (z % 64).toNat (by omega)
    split at hp
    · rename_i p0 hp0
      have h0 := h.out p0 (List.mem_of_getLast? hp0)
      split at hp
      · rcases List.mem_append.1 hp with hp | hp
        · exact h.out p ((List.dropLast_sublist G).subset hp)
        · rw [List.mem_singleton] at hp; subst hp
          exact ⟨h0.1, Nat.or_lt_two_pow (n := 64) h0.2 hr⟩
      · rcases List.mem_append.1 hp with hp | hp
        · exact h.out p hp
        · rw [List.mem_singleton] at hp; subst hp; exact ⟨hk, hr⟩
    · rw [List.mem_singleton] at hp; subst hp; exact ⟨hk, hr⟩
  · exact h.out p hp
theorem og_len (G : List Pt) (z : Int) : (og G z).length ≤ G.length + 1 := by
  unfold Bt.og
  split
  · split
    · split
      · simp
      · simp
    · simp
  · omega

set_option maxRecDepth 100000 in
set_option maxHeartbeats 4000000 in
theorem of_walk {w : World} {b off n c : Nat} {zs : List Int} (h : Il w (some ⟨b, off, none⟩) n c zs) (hn : n ≤ 1000) (h0 : 0 < n) (hok : Okp (ofs (srt zs))) :
    Calls Try.prog 19 #[.slice (some ⟨b, off, none⟩) n c] w fun e w' => ∃ q m c', e = .returned (.agg #[.slice q m c']) ∧ So w' w.heap.size q m c' (ofs (srt zs)) ∧ Kept w w' := by
  obtain ⟨i0, hi0, hz0, hz1, hz2⟩ := info_parts info42
  have ka : Kept w (w.alloc (.cells #[.slice none 0 0] 25)) := (Kept.refl w).alloc _
  have f1 := clone_walk (h.kept ka) (by omega) h0
  have f2 : Hid (∀ (W : World) (B g c : Nat), Own W B 3 1 (some ⟨g, 0, none⟩) n c (ic zs) → Calls Try.prog 33 #[.slice (some ⟨g, 0, none⟩) n c] W fun e w' => e = .returned (.tuple #[]) ∧ Own w' B 3 1 (some ⟨g, 0, none⟩) n c (ic (srt zs)) ∧ W.grownBy w' (some g) ∧ B ≤ g) := fun W B g c h => sort_walk h (by omega)
  have HL : Hid ((srt zs).length = n) := by have := h.len; rw [srt_len]; exact this
  have HOk : Hid (Okp (ofs (srt zs))) := hok
  clear h hok
  generalize srt zs = ts at *
  go_enter Try.func19, Try.ntmps19
  go_wp2_with (first
    | (go_at_call 32; refine f1.mono ?_; clear f1; rintro e w1 ⟨g, c1, rfl, o1, k1⟩; have f3 := f2.out w1 _ g c1 o1)
    | (go_at_call 33; refine f3.mono ?_; clear f3; rintro e w2 ⟨rfl, o2, g2, hBg⟩))
  have k2 : Kept w w2 := grown_kept w (ka.trans k1) g2 (Nat.le_refl _) (fun k hk => by injection hk with hk; subst hk; have := size_alloc w (.cells #[.slice none 0 0] 25); omega)
  have HR : Hid (w2.heap[w.heap.size]? = some (.cells #[.slice none 0 0] 25)) := by
    have e1 := k1.block (alloc_at w (.cells #[.slice none 0 0] 25))
    exact (g2.block _ (Array.getElem?_eq_some_iff.1 e1).1 (fun e => by injection e with e; have := size_alloc w (.cells #[.slice none 0 0] 25); omega)).trans e1
  have HI : Hid (Il w2 (some ⟨g, 0, none⟩) n c1 ts ∧ Kept w w2) := ⟨⟨o2.rw⟩, k2⟩
  have hgl : g < w2.heap.size := by
    rcases o2.out.2 with ⟨e, _⟩ | ⟨g', _, _, e, _, hb, _⟩
    · cases e
    · cases e; exact (Array.getElem?_eq_some_iff.1 hb).1
  have hc1 := o2.rw.small
  have kw3 := ((Kept.refl w2).alloc (.cells #[.slice none 0 0] 25))
  have hsz := size_alloc w2 (.cells #[.slice none 0 0] 25)
  have hwl := k2.size
  have Z0 : Oo (w2.alloc (.cells #[.slice none 0 0] 25)) (w2.alloc (.cells #[.slice none 0 0] 25)) w.heap.size (w2.heap.size + 1) w2.heap.size none 0 0 [] := ⟨Kb.refl _ _ _ _, alloc_at w2 _, own_nil _ _ _ _, by omega, by omega⟩
  have H0 : Hid (Oo (w2.alloc (.cells #[.slice none 0 0] 25)) (w2.alloc (.cells #[.slice none 0 0] 25)) w.heap.size (w2.heap.size + 1) w2.heap.size none 0 0 (ofs (ts.take 0)) ∧ Wkk (ofs (ts.take 0))) := ⟨Z0, ⟨fun p hp => by cases hp⟩⟩
  clear Z0 o1 o2 k1 g2 k2 hBg f2 ka kw3
  go_loopg [14] n (fun gg s14 wr => ∃ (i : Nat) (q : Option Addr) (m cc : Nat), s14 = .int .i64 (i : Nat) ∧ i ≤ n ∧ n - i ≤ gg ∧ m ≤ i ∧ Hid (Oo (w2.alloc (.cells #[.slice none 0 0] 25)) wr w.heap.size (w2.heap.size + 1) w2.heap.size q m cc (ofs (ts.take i)) ∧ Wkk (ofs (ts.take i))))
  case atStart => exact ⟨0, none, 0, 0, rfl, Nat.zero_le _, by omega, Nat.le_refl _, H0⟩
  case round =>
    obtain ⟨i, q, m, cc, rfl, hi, hg, hmi, H⟩ := hrel
    clear H0
    by_cases hlt : i < n
    · obtain ⟨z, hz⟩ : ∃ z, ts[i]? = some z := ⟨_, List.getElem?_eq_getElem (by rw [HL.out]; omega)⟩
      have c3 : wr.cell? ⟨g, i, none⟩ = some (.int .i64 z) := by
        obtain ⟨b', o', e, hc⟩ := HI.out.1.at hz
        cases e
        rw [Nat.zero_add] at hc
        rw [← hc]
        exact (World.cell?_of_block (H.out.1.kb.blk g (by omega) (by omega))).trans (((Kept.refl w2).alloc _).cell hc |>.trans hc.symm)
      have HO : Hid (ofs (ts.take (i + 1)) = og (ofs (ts.take i)) z) := ofs_take hz
      have hmay := fun W => may_walk z W
      have ccl := H.out.1.small
      have y4 : wr.cell? ⟨w2.heap.size, 0, none⟩ = some (.slice q m cc) := by rw [cell_of_row _ _ 0 _ _ _ H.out.1.bm]; rfl
      clear hz
      generalize ofs (ts.take i) = G at *
      by_cases hmz : 0 ≤ z ∧ z < 1048576
      · rw [show may z = true from decide_eq_true hmz] at hmay
        obtain ⟨mm, rfl⟩ : ∃ mm : Nat, z = (mm : Int) := ⟨z.toNat, by omega⟩
        have hm20 : mm < 1048576 := by omega
        obtain ⟨k, hk⟩ : ∃ k, k = mm / 64 := ⟨_, rfl⟩
        obtain ⟨r, hr⟩ : ∃ r, r = mm % 64 := ⟨_, rfl⟩
        have q1 : (mm : Int) / 64 = (k : Int) := by omega
        have q2 : (mm : Int) % 64 = (r : Int) := by omega
        have q3 : (mm : Int).tdiv 64 = (k : Int) := by rw [Int.tdiv_eq_ediv_of_nonneg (by omega)]; omega
        have q4 : (mm : Int).tmod 64 = (r : Int) := by rw [Int.tmod_eq_emod_of_nonneg (by omega)]; omega
        have hr64 : r < 64 := by omega
        have hk14 : k < 16384 := by omega
        have hpw := pw_wrap r hr64
        have hpl := pw_lt r hr64
        obtain ⟨pw, hpq⟩ : ∃ pw, pw = 2 ^ r := ⟨_, rfl⟩
        rw [← hpq] at hpw hpl
        have HPW : Hid (pw = 2 ^ r) := hpq
        have HKq : Hid (k = mm / 64) := hk
        have HRq : Hid (r = mm % 64) := hr
        clear hpq hk hr
        rcases List.eq_nil_or_concat G with hG | ⟨G', ax, hG⟩
        rotate_left
        rw [List.concat_eq_append] at hG
        rotate_left
        · subst hG
          obtain rfl : m = 0 := by have := H.out.1.len; simpa using this.symm
          have HM : Hid (Oo (w2.alloc (.cells #[.slice none 0 0] 25)) wr w.heap.size (w2.heap.size + 1) w2.heap.size q 0 cc []) := H.out.1
          have HW : Hid (Wkk []) := H.out.2
          have ka : Kept wr (wr.alloc (.cells #[.int .i64 (k : Nat), .int .u64 0] 42)) := (Kept.refl wr).alloc _
          have OA := HM.out.own.kept ka
          have hz4 := part_cells0 wr k 42
          have hBE : w2.heap.size + 1 ≤ (wr.alloc (.cells #[.int .i64 (k : Nat), .int .u64 0] 42)).heap.size := Nat.le_trans HM.out.big ka.size
          clear H
          go_wp2_with (first | (go_at_call 34; refine (hmay _).mono ?_; rintro e w' ⟨rfl, hw'⟩; rw [hw']; clear hw') | (at_builtin; refine wpList_append_own _ rfl _ _ 23 rfl (w2.heap.size + 1) 42 i0 _ 2 16 Try.underlying23 hi0 hz0 hz1 hz2 rfl (by decide) (.slice q 0 cc) 0 (pc ([])) rfl OA.out ⟨wr.heap.size, 0, none⟩ 1 1 [.int .i64 (k : Nat), .int .u64 0] rfl rfl hz4 (part_one0 k) (by unfold maxLen; omega) (by omega) hBE ?_; intro v' w5 o5 g5 _; obtain ⟨q5, c5, rfl⟩ := shape_of o5; obtain ⟨p5, R5⟩ := HM.out.more o5 g5; have z0 : w5.cell? ⟨w2.heap.size, 0, none⟩ = some (.slice q 0 cc) := (by rw [cell_of_row _ _ 0 _ _ _ p5]; rfl); have z1 : w5.frozen? ⟨w2.heap.size, 0, none⟩ = false := frozen_of_row _ _ 0 _ _ p5; have HR5 : Hid _ := R5; clear o5 g5 p5 R5))
          obtain ⟨g', hq5, _⟩ := HR5.out.ptr (by omega)
          subst hq5
          obtain ⟨W6, hW6⟩ : ∃ W6, w5.setCell ⟨w2.heap.size, 0, none⟩ (.slice (some ⟨g', 0, none⟩) (0 + 1) c5) = W6 := ⟨_, rfl⟩
          rw [hW6] at HR5 ⊢
          clear hW6
          obtain ⟨e1, d4, d0, d1, d2⟩ := HR5.out.cells
          have hor := u64_or_nat (0) pw (by decide) hpl
          obtain ⟨xo, hxo⟩ : ∃ xo, xo = 0 ||| pw := ⟨_, rfl⟩
          rw [← hxo] at hor
          have HP : Hid (Oo (w2.alloc (.cells #[.slice none 0 0] 25)) (W6.drew.setCell ⟨g', 0 * 2 + 1, none⟩ (.int .u64 (xo : Nat))) w.heap.size (w2.heap.size + 1) w2.heap.size (some ⟨g', 0, none⟩) (0 + 1) c5 (ofs (ts.take (i + 1))) ∧ Wkk (ofs (ts.take (i + 1)))) := by
            refine ⟨?_, by rw [HO.out]; exact HW.out.og _⟩
            have h7 := HR5.out.drew.put xo
            rw [HO.out]
            rw [og_nil hm20, ← HKq.out, ← HRq.out, ← HPW.out, show pw = xo by rw [hxo, Nat.zero_or]]
            exact h7
          clear HR5 hxo d0
          (try simp only [show ((0 : Nat) : Int) = 0 from rfl] at hor d1)
          go_region
          all_goals (try (go_wp2_with fail))
          go_roundg (n - (i + 1))
          case measure => omega
          case rel => exact ⟨i + 1, some ⟨g', 0, none⟩, 0 + 1, c5, by go_num, by omega, Nat.le_refl _, by omega, HP⟩
        · obtain ⟨a, x⟩ := ax
          subst hG
          obtain ⟨j, rfl⟩ : ∃ j, m = j + 1 := ⟨G'.length, by have := H.out.1.len; simpa using this.symm⟩
          obtain ⟨g', rfl, hgB⟩ := H.out.1.ptr (by omega)
          have HW : Hid (Wkk (G' ++ [(a, x)])) := H.out.2
          have hax := HW.out.out (a, x) (by simp)
          obtain ⟨ha14, hx64⟩ := hax
          simp only at ha14 hx64
          by_cases hak : a = k
          · have HR5 : Hid (Oo (w2.alloc (.cells #[.slice none 0 0] 25)) wr w.heap.size (w2.heap.size + 1) w2.heap.size (some ⟨g', 0, none⟩) (j + 1) cc (G' ++ [(a, x)])) := H.out.1
            obtain ⟨e1, y4', d0, d1, d2⟩ := HR5.out.cells
            clear H e1
            subst hak
            go_wp2_with ((go_at_call 34; refine (hmay _).mono ?_; rintro e w' ⟨rfl, hw'⟩; rw [hw']; clear hw'))
            clear d0 d1 d2 y4'
            obtain ⟨e1, d4, d0, d1, d2⟩ := HR5.out.cells
            have hor := u64_or_nat (x) pw hx64 hpl
            obtain ⟨xo, hxo⟩ : ∃ xo, xo = x ||| pw := ⟨_, rfl⟩
            rw [← hxo] at hor
            have HP : Hid (Oo (w2.alloc (.cells #[.slice none 0 0] 25)) (wr.drew.setCell ⟨g', j * 2 + 1, none⟩ (.int .u64 (xo : Nat))) w.heap.size (w2.heap.size + 1) w2.heap.size (some ⟨g', 0, none⟩) (j + 1) cc (ofs (ts.take (i + 1))) ∧ Wkk (ofs (ts.take (i + 1)))) := by
              refine ⟨?_, by rw [HO.out]; exact HW.out.og _⟩
              have h7 := HR5.out.drew.put xo
              rw [HO.out]
              rw [og_old hm20 HKq.out, ← HRq.out, ← HPW.out, ← hxo]
              exact h7
            clear HR5 hxo d0
            (try simp only [show ((0 : Nat) : Int) = 0 from rfl] at hor d1)
            go_region
            all_goals (try (go_wp2_with fail))
            go_roundg (n - (i + 1))
            case measure => omega
            case rel => exact ⟨i + 1, some ⟨g', 0, none⟩, j + 1, cc, by go_num, by omega, Nat.le_refl _, by omega, HP⟩
          · have HM : Hid (Oo (w2.alloc (.cells #[.slice none 0 0] 25)) wr w.heap.size (w2.heap.size + 1) w2.heap.size (some ⟨g', 0, none⟩) (j + 1) cc (G' ++ [(a, x)])) := H.out.1
            obtain ⟨e1, y4', d0, d1, d2⟩ := HM.out.cells
            have hak' : ¬ ((a : Int) = (k : Int)) := by omega
            have hak2 : ((a : Int) == (k : Int)) = false := by simp; omega
            have hak3 : ((a : Int) != (k : Int)) = true := by simp; omega
            have ka : Kept wr (wr.alloc (.cells #[.int .i64 (k : Nat), .int .u64 0] 42)) := (Kept.refl wr).alloc _
            have OA := HM.out.own.kept ka
            have hz4 := part_cells0 wr k 42
            have hBE : w2.heap.size + 1 ≤ (wr.alloc (.cells #[.int .i64 (k : Nat), .int .u64 0] 42)).heap.size := Nat.le_trans HM.out.big ka.size
            clear H e1
            go_wp2_with (first | (go_at_call 34; refine (hmay _).mono ?_; rintro e w' ⟨rfl, hw'⟩; rw [hw']; clear hw') | (at_builtin; refine wpList_append_own _ rfl _ _ 23 rfl (w2.heap.size + 1) 42 i0 _ 2 16 Try.underlying23 hi0 hz0 hz1 hz2 rfl (by decide) (.slice (some ⟨g', 0, none⟩) (j + 1) cc) (j + 1) (pc (G' ++ [(a, x)])) rfl OA.out ⟨wr.heap.size, 0, none⟩ 1 1 [.int .i64 (k : Nat), .int .u64 0] rfl rfl hz4 (part_one0 k) (by unfold maxLen; omega) (by omega) hBE ?_; intro v' w5 o5 g5 _; obtain ⟨q5, c5, rfl⟩ := shape_of o5; obtain ⟨p5, R5⟩ := HM.out.more o5 g5; have z0 : w5.cell? ⟨w2.heap.size, 0, none⟩ = some (.slice (some ⟨g', 0, none⟩) (j + 1) cc) := (by rw [cell_of_row _ _ 0 _ _ _ p5]; rfl); have z1 : w5.frozen? ⟨w2.heap.size, 0, none⟩ = false := frozen_of_row _ _ 0 _ _ p5; have HR5 : Hid _ := R5; clear o5 g5 p5 R5))
            obtain ⟨g5, hq5, _⟩ := HR5.out.ptr (by omega)
            subst hq5
            clear d0 d1 d2 y4'
            obtain ⟨W6, hW6⟩ : ∃ W6, w5.setCell ⟨w2.heap.size, 0, none⟩ (.slice (some ⟨g5, 0, none⟩) (j + 1 + 1) c5) = W6 := ⟨_, rfl⟩
            rw [hW6] at HR5 ⊢
            clear hW6
            obtain ⟨e1, d4, d0, d1, d2⟩ := HR5.out.cells
            have hor := u64_or_nat (0) pw (by decide) hpl
            obtain ⟨xo, hxo⟩ : ∃ xo, xo = 0 ||| pw := ⟨_, rfl⟩
            rw [← hxo] at hor
            have HP : Hid (Oo (w2.alloc (.cells #[.slice none 0 0] 25)) (W6.drew.setCell ⟨g5, (j + 1) * 2 + 1, none⟩ (.int .u64 (xo : Nat))) w.heap.size (w2.heap.size + 1) w2.heap.size (some ⟨g5, 0, none⟩) ((j + 1) + 1) c5 (ofs (ts.take (i + 1))) ∧ Wkk (ofs (ts.take (i + 1)))) := by
              refine ⟨?_, by rw [HO.out]; exact HW.out.og _⟩
              have h7 := HR5.out.drew.put xo
              rw [HO.out]
              rw [og_new hm20 (by rw [← HKq.out]; exact hak), ← HKq.out, ← HRq.out, ← HPW.out, show pw = xo by rw [hxo, Nat.zero_or]]
              exact h7
            clear HR5 hxo d0
            (try simp only [show ((0 : Nat) : Int) = 0 from rfl] at hor d1)
            go_region
            all_goals (try (go_wp2_with fail))
            go_roundg (n - (i + 1))
            case measure => omega
            case rel => exact ⟨i + 1, some ⟨g5, 0, none⟩, (j + 1) + 1, c5, by go_num, by omega, Nat.le_refl _, by omega, HP⟩
      · rw [show may z = false from decide_eq_false hmz] at hmay
        have HN : Hid (Oo (w2.alloc (.cells #[.slice none 0 0] 25)) wr w.heap.size (w2.heap.size + 1) w2.heap.size q m cc (ofs (ts.take (i + 1))) ∧ Wkk (ofs (ts.take (i + 1)))) := by rw [HO.out, og_no hmz]; exact H.out
        clear H
        go_wp2_with (go_at_call 34; refine (hmay _).mono ?_; rintro e w' ⟨rfl, hw'⟩; rw [hw']; clear hw')
        go_roundg (n - (i + 1))
        case measure => omega
        case rel => exact ⟨i + 1, q, m, cc, by go_num, by omega, Nat.le_refl _, by omega, HN⟩
    · obtain rfl : i = n := by omega
      have hT : ts.take i = ts := List.take_of_length_le (by rw [HL.out]; exact Nat.le_refl _)
      rw [hT] at H
      have y4 : wr.cell? ⟨w2.heap.size, 0, none⟩ = some (.slice q m cc) := by rw [cell_of_row _ _ 0 _ _ _ H.out.1.bm]; rfl
      have b2 : wr.heap[w.heap.size]? = some (.cells #[.slice none 0 0] 25) := (H.out.1.kb.blk _ (by omega) (by have := (Array.getElem?_eq_some_iff.1 HR.out).1; omega)).trans (((Kept.refl w2).alloc _).block HR.out)
      have y2 : wr.cell? ⟨w.heap.size, 0, none⟩ = some (.slice none 0 0) := by rw [cell_of_row _ _ 0 _ _ _ b2]; rfl
      have z2 : wr.frozen? ⟨w.heap.size, 0, none⟩ = false := frozen_of_row _ _ 0 _ _ b2
      have HF : Hid (So (wr.setCell ⟨w.heap.size, 0, none⟩ (.slice q m cc)) w.heap.size q m cc (ofs ts) ∧ Kept w (wr.setCell ⟨w.heap.size, 0, none⟩ (.slice q m cc)) ∧ (wr.setCell ⟨w.heap.size, 0, none⟩ (.slice q m cc)).heap[w.heap.size]? = some (.cells #[.slice q m cc] 25)) := by
        refine ⟨⟨(own_set H.out.1.own (by omega) 0 _).mono (by omega), HOk.out⟩, ⟨?_⟩, by rw [heap_setCell_same _ _ 0 _ _ _ b2]; rfl⟩
        exact (((HI.out.2.out.trans (((Kept.refl w2).alloc _).out.mono hwl)).trans H.out.1.kb.below).setCell (p := ⟨w.heap.size, 0, none⟩) (Nat.le_refl _) _)
      clear H b2
      go_wp2
      refine bodyPost_ret (v := .agg #[.slice q m cc]) ?_ rfl ⟨q, m, cc, rfl, HF.out.1, HF.out.2.1⟩
      exact results_one (p := 2) (ty := 25) rfl _ _ w.heap.size 25 _ (0, 0) _ rfl HF.out.2.2 Try.underlying25 rfl size25
end Go.Proofs.Ytanccfbbaeocaaa.Bt
