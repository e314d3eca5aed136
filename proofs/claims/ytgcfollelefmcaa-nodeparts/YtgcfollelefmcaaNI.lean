/- The walk of the statement's Leaf: a leaf of some keys. Conditions: none but that the list is in memory. -/
import Derived.Test.YtgcfollelefmcaaNH
namespace Go.Proofs.Ytgcfollelefmcaa
open Go.ChangeShapes Go.WideShapes Go.ChangeAt Go.RowKit

def Ki.cells (x : Ki) : List Value := [.string x.s, .string x.v, .int .i64 x.pg, .int .i64 x.ln]
def kicl (l : List Ki) : List Value := l.flatMap Ki.cells
theorem kicl_cons (v : Ki) (r : List Ki) : kicl (v :: r) = v.cells ++ kicl r := by simp [kicl]
theorem kicl_length : ∀ vs : List Ki, (kicl vs).length = vs.length * 4
  | [] => rfl
  | v :: r => by rw [kicl_cons, List.length_append, kicl_length r]; simp [Ki.cells]; omega
theorem kicl_at : ∀ {vs : List Ki} {i : Nat} {v : Ki}, vs[i]? = some v → (kicl vs)[i * 4]? = some (.string v.s) ∧ (kicl vs)[i * 4 + 1]? = some (.string v.v) ∧ (kicl vs)[i * 4 + 2]? = some (.int .i64 v.pg) ∧ (kicl vs)[i * 4 + 3]? = some (.int .i64 v.ln)
  | [], _, _, h => by simp at h
  | x :: r, 0, v, h => by simp at h; subst h; rw [kicl_cons]; simp [Ki.cells]
  | x :: r, i + 1, v, h => by
    have ih := kicl_at (vs := r) (i := i) (v := v) (by simpa using h)
    rw [kicl_cons, show (i + 1) * 4 = i * 4 + 1 + 1 + 1 + 1 by omega]
    simpa [Ki.cells] using ih

/-- One key more. -/
def stepP (a : List ByteArray × List Vl) (x : Ki) : List ByteArray × List Vl := (setK a.1 (kkey x), setV a.1 a.2 (kkey x) (kval x))
/-- A leaf of some keys. -/
def leafP (l : List Ki) : List ByteArray × List Vl := l.foldl stepP ([], [])

theorem leafP_more {l : List Ki} {i : Nat} {x : Ki} (h : l[i]? = some x) : leafP (l.take (i + 1)) = stepP (leafP (l.take i)) x := by
  unfold leafP
  rw [List.take_add_one, h]
  simp

/-- A leaf that may be. -/
structure Leafy (ks : List ByteArray) (vs : List Vl) : Prop where
  up : Up ks
  len : vs.length = ks.length
  small : ∀ k ∈ ks, k.size ≤ 64
  ok : ∀ v ∈ vs, Okv v

theorem mem_ins {α : Type} {l : List α} {i : Nat} {x y : α} (h : y ∈ ins l i x) : y = x ∨ y ∈ l := by
  unfold ins at h
  rcases List.mem_append.1 h with h | h
  · exact .inr (List.mem_of_mem_take h)
  · rcases List.mem_cons.1 h with h | h
    · exact .inl h
    · exact .inr (List.mem_of_mem_drop h)
theorem Leafy.step {a : List ByteArray × List Vl} (h : Leafy a.1 a.2) (x : Ki) : Leafy (stepP a x).1 (stepP a x).2 := by
  refine ⟨setK_up h.up _, setV_length _ _ _ _ h.len, fun k hk => ?_, fun v hv => ?_⟩
  · change k ∈ setK a.1 (kkey x) at hk
    unfold setK at hk
    split at hk
    · exact h.small k hk
    · rcases mem_ins hk with rfl | hk
      · exact kkey_size x
      · exact h.small k hk
  · change v ∈ setV a.1 a.2 (kkey x) (kval x) at hv
    unfold setV at hv
    split at hv
    · rcases List.mem_or_eq_of_mem_set hv with hv | rfl
      · exact h.ok v hv
      · exact kval_ok x
    · rcases mem_ins hv with rfl | hv
      · exact kval_ok x
      · exact h.ok v hv
theorem leafP_leafy (l : List Ki) : Leafy (leafP l).1 (leafP l).2 := by
  suffices H : ∀ (l : List Ki) (a : List ByteArray × List Vl), Leafy a.1 a.2 → Leafy (l.foldl stepP a).1 (l.foldl stepP a).2 from
    H l ([], []) ⟨List.Pairwise.nil, rfl, fun _ h => (by cases h), fun _ h => (by cases h)⟩
  intro l
  induction l with
  | nil => exact fun a h => h
  | cons x r ih => exact fun a h => ih _ (h.step x)
theorem leafP_length (l : List Ki) : (leafP l).1.length ≤ l.length := by
  suffices H : ∀ (l : List Ki) (a : List ByteArray × List Vl), (l.foldl stepP a).1.length ≤ a.1.length + l.length by simpa [leafP] using H l ([], [])
  intro l
  induction l with
  | nil => exact fun a => by simp
  | cons x r ih =>
    intro a
    have h1 := ih (stepP a x)
    have h2 : (stepP a x).1.length ≤ a.1.length + 1 := by
      show (setK a.1 (kkey x)).length ≤ _
      rw [setK_length]; split <;> omega
    simp only [List.foldl_cons, List.length_cons]
    omega

/-- The list that is handed in. -/
structure Gv (w : World) (p : Option Addr) (n c : Nat) (l : List Ki) : Prop where
  out : Rw w 4 p n c (kicl l)

theorem Gv.len {w : World} {p : Option Addr} {n c : Nat} {l : List Ki} (h : Gv w p n c l) : l.length = n := by
  have := h.out.len; rw [kicl_length] at this; omega
theorem Gv.at {w : World} {p : Option Addr} {n c : Nat} {l : List Ki} (h : Gv w p n c l) : (p = none ∧ n = 0 ∧ l = []) ∨ ∃ b off, p = some ⟨b, off, none⟩ ∧ ∀ W, Kept w W → ∀ i x, l[i]? = some x →
    W.cell? ⟨b, off + i * 4, none⟩ = some (.string x.s) ∧ W.cell? ⟨b, off + i * 4 + 1, none⟩ = some (.string x.v) ∧ W.cell? ⟨b, off + i * 4 + 2, none⟩ = some (.int .i64 x.pg) ∧ W.cell? ⟨b, off + i * 4 + 3, none⟩ = some (.int .i64 x.ln) := by
  rcases h.out.out with ⟨rfl, rfl⟩ | ⟨b, off, rfl, hc⟩
  · exact .inl ⟨rfl, rfl, List.length_eq_zero_iff.1 h.len⟩
  · refine .inr ⟨b, off, rfl, fun W hW i x hx => ?_⟩
    obtain ⟨a0, a1, a2, a3⟩ := kicl_at hx
    have b0 := hW.cell (hc _ _ a0)
    have b1 := hW.cell (hc _ _ a1)
    have b2 := hW.cell (hc _ _ a2)
    have b3 := hW.cell (hc _ _ a3)
    rw [← Nat.add_assoc] at b1 b2 b3
    exact ⟨b0, b1, b2, b3⟩

theorem leaf_none {w : World} {c : Nat} :
    Calls Try.prog 16 #[.slice none 0 c] w fun e w' => e = .returned (.agg #[.bool true, .slice none 0 0, .slice none 0 0, .slice none 0 0]) ∧ Kept w w' := by
  go_enter Try.func16, Try.ntmps16
  go_wp2
  go_loopg [3] 0 (fun _ v wx => v = .int .i64 0 ∧ wx = w.alloc (.cells #[.bool true, .slice none 0 0, .slice none 0 0, .slice none 0 0] 27))
  case atStart => exact ⟨rfl, rfl⟩
  case round =>
    obtain ⟨rfl, rfl⟩ := hrel
    go_wp2
    refine bodyPost_ret (v := .agg #[.bool true, .slice none 0 0, .slice none 0 0, .slice none 0 0]) ?_ rfl ⟨rfl, (Kept.refl w).alloc _⟩
    exact results_cell_row (p := 2) rfl _ _ w.heap.size 27 #[.bool true, .slice none 0 0, .slice none 0 0, .slice none 0 0] (0, 0) _ rfl (heap_alloc_new w _) Try.underlying27 rfl size27

set_option linter.unusedSimpArgs false in
set_option maxHeartbeats 4000000 in
set_option maxRecDepth 100000 in
theorem leaf_some {w : World} {lb off n c : Nat} {L : List Ki} (hl : L.length = n) (hc : ∀ W, Kept w W → ∀ i x, L[i]? = some x →
    W.cell? ⟨lb, off + i * 4, none⟩ = some (.string x.s) ∧ W.cell? ⟨lb, off + i * 4 + 1, none⟩ = some (.string x.v) ∧ W.cell? ⟨lb, off + i * 4 + 2, none⟩ = some (.int .i64 x.pg) ∧ W.cell? ⟨lb, off + i * 4 + 3, none⟩ = some (.int .i64 x.ln)) :
    Calls Try.prog 16 #[.slice (some ⟨lb, off, none⟩) n c] w fun e w' => ∃ kp m kc vp vc, e = .returned (.agg #[.bool true, .slice kp m kc, .slice vp m vc, .slice none 0 0]) ∧ Own w' w.heap.size 9 1 kp m kc (kcl (leafP (L.take 40)).1) ∧ Own w' w.heap.size 49 3 vp m vc (vcl (leafP (L.take 40)).2) ∧ m ≤ 40 ∧ Kept w w' := by
  have HC : Hid _ := hc
  have HL : Hid (L.length = n) := hl
  clear hc hl
  go_enter Try.func16, Try.ntmps16
  go_wp2
  go_loopg [3] 40 (fun g v wx => ∃ (i : Nat) (kp : Option Addr) (m kc : Nat) (vp : Option Addr) (vc : Nat), v = .int .i64 (i : Nat) ∧ Hid (g = 40 - i) ∧ i ≤ n ∧ i ≤ 40 ∧ m ≤ i ∧ C4 wx w.heap.size 27 (.bool true) (.slice kp m kc) (.slice vp m vc) (.slice none 0 0) ∧ Own wx (w.heap.size + 1) 9 1 kp m kc (kcl (leafP (L.take i)).1) ∧ Own wx (w.heap.size + 1) 49 3 vp m vc (vcl (leafP (L.take i)).2) ∧ Kept w wx)
  case atStart => exact ⟨0, none, 0, 0, none, 0, rfl, rfl, Nat.zero_le _, Nat.zero_le _, Nat.le_refl _, C4.alloc w 27 _ _ _ _, ⟨World.ownsRow_nil _ _ _ _⟩, ⟨World.ownsRow_nil _ _ _ _⟩, (Kept.refl w).alloc _⟩
  case round =>
    obtain ⟨i, kp, m, kc, vp, vc, rfl, hg, hin, hi40, hm, X, O1, O2, K⟩ := hrel
    by_cases h1 : i < n
    · by_cases h2 : i < 40
      · obtain ⟨x, hx⟩ : ∃ x, L[i]? = some x := ⟨_, List.getElem?_eq_getElem (by rw [HL.out]; exact h1)⟩
        have HX : Hid (L[i]? = some x) := hx
        obtain ⟨a0, a1, a2, a3⟩ := HC.out _ K.drew i x hx
        obtain ⟨c0, c1, c2, c3⟩ := X.drew.cs
        have h1' : (i : Int) < (n : Int) := by omega
        have h2' : (i : Int) < 40 := by omega
        have hcut : x.s.extract 0 (min (x.s.size : Int) 64).toNat = kkey x := rfl
        have HS : Hid (∀ W, Kept wr W → Calls Try.prog 20 #[.agg #[.bool true, .slice kp m kc, .slice vp m vc, .slice none 0 0], .string (kkey x), .agg #[.string (kval x).d, .int .i64 (kval x).p, .int .i64 (kval x).l]] W fun e w' => ∃ (kp' : Option Addr) (m' kc' : Nat) (vp' : Option Addr) (vc' : Nat) (o : Vl) (b : Bool), e = .returned (.tuple #[.agg #[.bool true, .slice kp' m' kc', .slice vp' m' vc', .slice none 0 0], .agg #[.string o.d, .int .i64 o.p, .int .i64 o.l], .bool b]) ∧ Own w' W.heap.size 9 1 kp' m' kc' (kcl (leafP (L.take (i + 1))).1) ∧ Own w' W.heap.size 49 3 vp' m' vc' (vcl (leafP (L.take (i + 1))).2) ∧ Kept W w') := by
          intro W hW
          refine (set_walk (hW.rw O1.rw) (hW.rw O2.rw) (by omega) (kkey x) (kval x)).mono ?_
          rintro e w' ⟨kp', m', kc', vp', vc', rfl, p1, p2, p3⟩
          rw [leafP_more hx]
          exact ⟨_, _, _, _, _, _, _, rfl, p1, p2, p3⟩
        have HM : Hid (m ≤ i) := hm
        have hb1 : (0 : Int) ≤ min (x.s.size : Int) 64 := by omega
        have hb2 : min (x.s.size : Int) 64 ≤ (x.s.size : Int) := by omega
        have hlw : lb < w.heap.size := World.block_lt_of_cell? w _ (HC.out w (Kept.refl w) i x hx).1
        have hlb : ¬ (lb = w.heap.size) := by omega
        have hlb2 : ¬ (w.heap.size = lb) := by omega
        clear hx
        go_wp2_with fail
        refine wp_region_held_drew (S := (fun W => W.cell? ⟨lb, off + i * 4, none⟩ = some (.string x.s) ∧ W.cell? ⟨lb, off + i * 4 + 1, none⟩ = some (.string x.v) ∧ W.cell? ⟨lb, off + i * 4 + 2, none⟩ = some (.int .i64 x.pg) ∧ W.cell? ⟨lb, off + i * 4 + 3, none⟩ = some (.int .i64 x.ln))) (by kernel_rfl) ?_ (fun hHeld => ?_)
        · exact ⟨a0, a1, a2, a3⟩
        refine wpAnyH_take (i := 1) (v := ?_) rfl (by kernel_rfl) (by kernel_rfl) (by kernel_rfl) (fun _ _ _ h => h) (Or.inl ⟨by rfl, ?_⟩) (by assumption) ?_
        rotate_left
        · intro w hSw
          (try dsimp only at hSw)
          go_simp
          all_goals with_reducible rfl
        try simp only [Act.put, List.setIfInBounds_toArray, List.set_cons_zero, List.set_cons_succ]
        refine wpAnyH_take (i := 2) (v := ?_) rfl (by kernel_rfl) (by kernel_rfl) (by kernel_rfl) (fun _ _ _ h => h) (Or.inl ⟨by rfl, ?_⟩) (by assumption) ?_
        rotate_left
        · intro w hSw
          (try dsimp only at hSw)
          go_simp
          all_goals with_reducible rfl
        try simp only [Act.put, List.setIfInBounds_toArray, List.set_cons_zero, List.set_cons_succ]
        refine wpAnyH_take (i := 3) (v := ?_) rfl (by kernel_rfl) (by kernel_rfl) (by kernel_rfl) (fun _ _ _ h => h) (Or.inl ⟨by rfl, ?_⟩) (by assumption) ?_
        rotate_left
        · intro w hSw
          (try dsimp only at hSw)
          go_simp
          all_goals with_reducible rfl
        try simp only [Act.put, List.setIfInBounds_toArray, List.set_cons_zero, List.set_cons_succ]
        refine wpAnyH_take (i := 4) (v := ?_) rfl (by kernel_rfl) (by kernel_rfl) (by kernel_rfl) (fun _ _ _ h => h) (Or.inl ⟨by rfl, ?_⟩) (by assumption) ?_
        rotate_left
        · intro w hSw
          (try dsimp only at hSw)
          go_simp
          all_goals with_reducible rfl
        try simp only [Act.put, List.setIfInBounds_toArray, List.set_cons_zero, List.set_cons_succ]
        refine wpAnyH_take (i := 5) (v := ?_) rfl (by kernel_rfl) (by kernel_rfl) (by kernel_rfl) (fun _ _ _ h => h) (Or.inl ⟨by rfl, ?_⟩) (by assumption) ?_
        rotate_left
        · intro w hSw
          (try dsimp only at hSw)
          go_simp
          all_goals with_reducible rfl
        try simp only [Act.put, List.setIfInBounds_toArray, List.set_cons_zero, List.set_cons_succ]
        refine wpAnyH_take (i := 6) (v := ?_) rfl (by kernel_rfl) (by kernel_rfl) (by kernel_rfl) (fun _ _ _ h => h) (Or.inl ⟨by rfl, ?_⟩) (by assumption) ?_
        rotate_left
        · intro w hSw
          (try dsimp only at hSw)
          go_simp
          all_goals with_reducible rfl
        try simp only [Act.put, List.setIfInBounds_toArray, List.set_cons_zero, List.set_cons_succ]
        refine wpAnyH_take (i := 7) (v := ?_) rfl (by kernel_rfl) (by kernel_rfl) (by kernel_rfl) (fun _ _ _ h => h) (Or.inl ⟨by rfl, ?_⟩) (by assumption) ?_
        rotate_left
        · intro w hSw
          (try dsimp only at hSw)
          go_simp
          all_goals with_reducible rfl
        try simp only [Act.put, List.setIfInBounds_toArray, List.set_cons_zero, List.set_cons_succ]
        refine wpAnyH_take (i := 8) (v := ?_) rfl (by kernel_rfl) (by kernel_rfl) (by kernel_rfl) (fun _ _ _ h => h) (Or.inl ⟨by rfl, ?_⟩) (by assumption) ?_
        rotate_left
        · intro w hSw
          (try dsimp only at hSw)
          go_simp
          all_goals with_reducible rfl
        try simp only [Act.put, List.setIfInBounds_toArray, List.set_cons_zero, List.set_cons_succ]
        refine wpAnyH_take (i := 9) (v := ?_) rfl (by kernel_rfl) (by kernel_rfl) (by kernel_rfl) (fun _ _ _ h => h) (Or.inl ⟨by rfl, ?_⟩) (by assumption) ?_
        rotate_left
        · intro w hSw
          (try dsimp only at hSw)
          go_simp
          all_goals with_reducible rfl
        try simp only [Act.put, List.setIfInBounds_toArray, List.set_cons_zero, List.set_cons_succ]
        refine wpAnyH_take (i := 10) (v := ?_) rfl (by kernel_rfl) (by kernel_rfl) (by kernel_rfl) (fun _ _ _ h => h) (Or.inl ⟨by rfl, ?_⟩) (by assumption) ?_
        rotate_left
        · intro w hSw
          (try dsimp only at hSw)
          go_simp
          all_goals with_reducible rfl
        try simp only [Act.put, List.setIfInBounds_toArray, List.set_cons_zero, List.set_cons_succ]
        refine wpAnyH_take (i := 11) (v := ?_) rfl (by kernel_rfl) (by kernel_rfl) (by kernel_rfl) (fun _ _ _ h => h) (Or.inl ⟨by rfl, ?_⟩) (by assumption) ?_
        rotate_left
        · intro w hSw
          (try dsimp only at hSw)
          go_simp
          all_goals with_reducible rfl
        try simp only [Act.put, List.setIfInBounds_toArray, List.set_cons_zero, List.set_cons_succ]
        refine wpAnyH_take (i := 12) (v := ?_) rfl (by kernel_rfl) (by kernel_rfl) (by kernel_rfl) (fun _ _ _ h => h) (Or.inl ⟨by rfl, ?_⟩) (by assumption) ?_
        rotate_left
        · intro w hSw
          (try dsimp only at hSw)
          go_simp
          all_goals with_reducible rfl
        try simp only [Act.put, List.setIfInBounds_toArray, List.set_cons_zero, List.set_cons_succ]
        refine wpAnyH_take (i := 13) (v := ?_) rfl (by kernel_rfl) (by kernel_rfl) (by kernel_rfl) (fun _ _ _ h => h) (Or.inl ⟨by rfl, ?_⟩) (by assumption) ?_
        rotate_left
        · intro w hSw
          (try dsimp only at hSw)
          go_simp
          all_goals with_reducible rfl
        try simp only [Act.put, List.setIfInBounds_toArray, List.set_cons_zero, List.set_cons_succ]
        refine wpAnyH_take (i := 14) (v := ?_) rfl (by kernel_rfl) (by kernel_rfl) (by kernel_rfl) (fun _ _ _ h => h) (Or.inl ⟨by rfl, ?_⟩) (by assumption) ?_
        rotate_left
        · intro w hSw
          (try dsimp only at hSw)
          go_simp
          all_goals with_reducible rfl
        try simp only [Act.put, List.setIfInBounds_toArray, List.set_cons_zero, List.set_cons_succ]
        refine wpAnyH_take (i := 15) (v := ?_) rfl (by kernel_rfl) (by kernel_rfl) (by kernel_rfl) (fun _ _ _ h => h) (Or.inl ⟨by rfl, ?_⟩) (by assumption) ?_
        rotate_left
        · intro w hSw
          (try dsimp only at hSw)
          go_simp
          all_goals with_reducible rfl
        try simp only [Act.put, List.setIfInBounds_toArray, List.set_cons_zero, List.set_cons_succ]
        refine wpAnyH_take (i := 16) (v := ?_) rfl (by kernel_rfl) (by kernel_rfl) (by kernel_rfl) (fun _ _ _ h => h) (Or.inl ⟨by rfl, ?_⟩) (by assumption) ?_
        rotate_left
        · intro w hSw
          (try dsimp only at hSw)
          go_simp
          all_goals with_reducible rfl
        try simp only [Act.put, List.setIfInBounds_toArray, List.set_cons_zero, List.set_cons_succ]
        refine wpAnyH_take (i := 17) (v := ?_) rfl (by kernel_rfl) (by kernel_rfl) (by kernel_rfl) (fun _ _ _ h => h) (Or.inl ⟨by rfl, ?_⟩) (by assumption) ?_
        rotate_left
        · intro w hSw
          (try dsimp only at hSw)
          go_simp
          all_goals with_reducible rfl
        try simp only [Act.put, List.setIfInBounds_toArray, List.set_cons_zero, List.set_cons_succ]
        refine wpAnyH_ready (rs := [0, 18]) (by kernel_rfl) (by simp) ?_
        refine AllReadyH.cons rfl (fun KK hKK => ?_) ?_
        ·
          go_simp
          refine hKK.out _ _ ?_ (fun hHeld => ?_)
          · (try dsimp only)
            go_keep
          clear hKK KK
          try simp only [Act.put, List.setIfInBounds_toArray, List.set_cons_zero, List.set_cons_succ]
          refine wpAnyH_ready (rs := [18]) (by kernel_rfl) (by simp) ?_
          refine AllReadyH.cons rfl (fun KK hKK => ?_) ?_
          ·
            go_simp
            go_at_call 18
            (with_reducible refine (val_walk x _).mono ?_)
            rintro e v1 ⟨rfl, k1⟩
            have K1 := K.drew.trans k1
            have Kr : Kept wr v1 := (Kept.refl wr).drew.trans k1
            have X1 := X.drew.kept k1
            obtain ⟨b0, b1, b2, b3⟩ := HC.out _ K1 i x HX.out
            obtain ⟨d0, d1, d2, d3⟩ := X1.cs
            go_wp2_with fail
            refine hKK.out _ _ ?_ (fun hHeld => ?_)
            · (try dsimp only)
              go_keep
            clear hKK KK
            try simp only [Act.put, List.setIfInBounds_toArray, List.set_cons_zero, List.set_cons_succ]
            refine wpAnyH_ready (rs := [19]) (by kernel_rfl) (by simp) ?_
            refine AllReadyH.cons rfl (fun KK hKK => ?_) ?_
            ·
              go_simp
              go_at_call 20
              (with_reducible refine (HS.out _ Kr).mono ?_)
              rintro e v2 ⟨kp2, m2, kc2, vp2, vc2, o, bb, rfl, p1, p2, k2⟩
              have K2 := K1.trans k2
              have X2 := X1.kept k2
              have z2 := K1.size
              have y2 := X1.lt
              obtain ⟨e0, e1, e2, e3⟩ := HC.out _ K2 i x HX.out
              obtain ⟨⟨g0, f0⟩, ⟨g1, f1⟩, ⟨g2, f2⟩, ⟨g3, f3⟩, hfin⟩ := ready4 X2.out (.bool true) (.slice kp2 m2 kc2) (.slice vp2 m2 vc2) (.slice none 0 0)
              go_wp2_with fail
              refine hKK.out _ _ ?_ (fun hHeld => ?_)
              · (try dsimp only)
                go_keep
              clear hKK KK
              try simp only [Act.put, List.setIfInBounds_toArray, List.set_cons_zero, List.set_cons_succ]
              refine wpAnyH_take (i := 20) (v := ?_) rfl (by kernel_rfl) (by kernel_rfl) (by kernel_rfl) (fun _ _ _ h => h) (Or.inl ⟨by rfl, ?_⟩) (by assumption) ?_
              rotate_left
              · intro w hSw
                (try dsimp only at hSw)
                go_simp
                all_goals with_reducible rfl
              try simp only [Act.put, List.setIfInBounds_toArray, List.set_cons_zero, List.set_cons_succ]
              refine wpAnyH_take (i := 21) (v := ?_) rfl (by kernel_rfl) (by kernel_rfl) (by kernel_rfl) (fun _ _ _ h => h) (Or.inl ⟨by rfl, ?_⟩) (by assumption) ?_
              rotate_left
              · intro w hSw
                (try dsimp only at hSw)
                go_simp
                all_goals with_reducible rfl
              try simp only [Act.put, List.setIfInBounds_toArray, List.set_cons_zero, List.set_cons_succ]
              refine wpAnyH_take (i := 22) (v := ?_) rfl (by kernel_rfl) (by kernel_rfl) (by kernel_rfl) (fun _ _ _ h => h) (Or.inl ⟨by rfl, ?_⟩) (by assumption) ?_
              rotate_left
              · intro w hSw
                (try dsimp only at hSw)
                go_simp
                all_goals with_reducible rfl
              try simp only [Act.put, List.setIfInBounds_toArray, List.set_cons_zero, List.set_cons_succ]
              refine wpAnyH_take (i := 23) (v := ?_) rfl (by kernel_rfl) (by kernel_rfl) (by kernel_rfl) (fun _ _ _ h => h) (Or.inl ⟨by rfl, ?_⟩) (by assumption) ?_
              rotate_left
              · intro w hSw
                (try dsimp only at hSw)
                go_simp
                all_goals with_reducible rfl
              try simp only [Act.put, List.setIfInBounds_toArray, List.set_cons_zero, List.set_cons_succ]
              refine wpAnyH_ready (rs := [24]) (by kernel_rfl) (by simp) ?_
              refine AllReadyH.cons rfl (fun KK hKK => ?_) ?_
              ·
                go_simp
                refine hKK.out _ _ ?_ (fun hHeld => ?_)
                · (try dsimp only)
                  go_keep
                clear hKK KK
                try simp only [Act.put, List.setIfInBounds_toArray, List.set_cons_zero, List.set_cons_succ]
                refine wpAnyH_done (by kernel_rfl) ?_ _
                generalize hW : ((((v2.setCell ⟨w.heap.size, 0, none⟩ (.bool true)).setCell ⟨w.heap.size, 1, none⟩ (.slice kp2 m2 kc2)).setCell ⟨w.heap.size, 2, none⟩ (.slice vp2 m2 vc2)).setCell ⟨w.heap.size, 3, none⟩ (.slice none 0 0)) = WF at hfin ⊢
                have q1 : Own WF (w.heap.size + 1) 9 1 kp2 m2 kc2 (kcl (leafP (L.take (i + 1))).1) := by rw [← hW]; exact (p1.st4 y2 _ _ _ _).mono y2
                have q2 : Own WF (w.heap.size + 1) 49 3 vp2 m2 vc2 (vcl (leafP (L.take (i + 1))).2) := by rw [← hW]; exact (p2.st4 y2 _ _ _ _).mono y2
                have q3 : Kept w WF := by rw [← hW]; exact K2.st4 (Nat.le_refl _) _ _ _ _
                have q4 : m2 ≤ i + 1 := by have a := q1.rw.len; rw [kcl_length, Nat.mul_one] at a; rw [← a]; have b := leafP_length (L.take (i + 1)); have c := List.length_take_le (i + 1) L; omega
                clear hW p1 p2 X2 K2 k2 e0 e1 e2 e3 g0 g1 g2 g3 f0 f1 f2 f3 b0 b1 b2 b3 d0 d1 d2 d3 a0 a1 a2 a3 c0 c1 c2 c3 X1 K1 Kr k1 O1 O2 X K HS hcut hHeld
                go_wp2
                go_roundg (40 - (i + 1))
                case measure => rw [hg.out]; omega
                case rel => exact ⟨i + 1, kp2, m2, kc2, vp2, vc2, by go_num, rfl, by omega, by omega, q4, ⟨hfin⟩, q1, q2, q3⟩
              exact AllReadyH.nil
            exact AllReadyH.nil
          exact AllReadyH.nil
        refine AllReadyH.cons rfl (fun KK hKK => ?_) ?_
        ·
          go_simp
          go_at_call 18
          (with_reducible refine (val_walk x _).mono ?_)
          rintro e v1 ⟨rfl, k1⟩
          have K1 := K.drew.trans k1
          have Kr : Kept wr v1 := (Kept.refl wr).drew.trans k1
          have X1 := X.drew.kept k1
          obtain ⟨b0, b1, b2, b3⟩ := HC.out _ K1 i x HX.out
          obtain ⟨d0, d1, d2, d3⟩ := X1.cs
          go_wp2_with fail
          refine hKK.out _ _ ?_ (fun hHeld => ?_)
          · (try dsimp only)
            go_keep
          clear hKK KK
          try simp only [Act.put, List.setIfInBounds_toArray, List.set_cons_zero, List.set_cons_succ]
          refine wpAnyH_ready (rs := [0]) (by kernel_rfl) (by simp) ?_
          refine AllReadyH.cons rfl (fun KK hKK => ?_) ?_
          ·
            go_simp
            refine hKK.out _ _ ?_ (fun hHeld => ?_)
            · (try dsimp only)
              go_keep
            clear hKK KK
            try simp only [Act.put, List.setIfInBounds_toArray, List.set_cons_zero, List.set_cons_succ]
            refine wpAnyH_ready (rs := [19]) (by kernel_rfl) (by simp) ?_
            refine AllReadyH.cons rfl (fun KK hKK => ?_) ?_
            ·
              go_simp
              go_at_call 20
              (with_reducible refine (HS.out _ Kr).mono ?_)
              rintro e v2 ⟨kp2, m2, kc2, vp2, vc2, o, bb, rfl, p1, p2, k2⟩
              have K2 := K1.trans k2
              have X2 := X1.kept k2
              have z2 := K1.size
              have y2 := X1.lt
              obtain ⟨e0, e1, e2, e3⟩ := HC.out _ K2 i x HX.out
              obtain ⟨⟨g0, f0⟩, ⟨g1, f1⟩, ⟨g2, f2⟩, ⟨g3, f3⟩, hfin⟩ := ready4 X2.out (.bool true) (.slice kp2 m2 kc2) (.slice vp2 m2 vc2) (.slice none 0 0)
              go_wp2_with fail
              refine hKK.out _ _ ?_ (fun hHeld => ?_)
              · (try dsimp only)
                go_keep
              clear hKK KK
              try simp only [Act.put, List.setIfInBounds_toArray, List.set_cons_zero, List.set_cons_succ]
              refine wpAnyH_take (i := 20) (v := ?_) rfl (by kernel_rfl) (by kernel_rfl) (by kernel_rfl) (fun _ _ _ h => h) (Or.inl ⟨by rfl, ?_⟩) (by assumption) ?_
              rotate_left
              · intro w hSw
                (try dsimp only at hSw)
                go_simp
                all_goals with_reducible rfl
              try simp only [Act.put, List.setIfInBounds_toArray, List.set_cons_zero, List.set_cons_succ]
              refine wpAnyH_take (i := 21) (v := ?_) rfl (by kernel_rfl) (by kernel_rfl) (by kernel_rfl) (fun _ _ _ h => h) (Or.inl ⟨by rfl, ?_⟩) (by assumption) ?_
              rotate_left
              · intro w hSw
                (try dsimp only at hSw)
                go_simp
                all_goals with_reducible rfl
              try simp only [Act.put, List.setIfInBounds_toArray, List.set_cons_zero, List.set_cons_succ]
              refine wpAnyH_take (i := 22) (v := ?_) rfl (by kernel_rfl) (by kernel_rfl) (by kernel_rfl) (fun _ _ _ h => h) (Or.inl ⟨by rfl, ?_⟩) (by assumption) ?_
              rotate_left
              · intro w hSw
                (try dsimp only at hSw)
                go_simp
                all_goals with_reducible rfl
              try simp only [Act.put, List.setIfInBounds_toArray, List.set_cons_zero, List.set_cons_succ]
              refine wpAnyH_take (i := 23) (v := ?_) rfl (by kernel_rfl) (by kernel_rfl) (by kernel_rfl) (fun _ _ _ h => h) (Or.inl ⟨by rfl, ?_⟩) (by assumption) ?_
              rotate_left
              · intro w hSw
                (try dsimp only at hSw)
                go_simp
                all_goals with_reducible rfl
              try simp only [Act.put, List.setIfInBounds_toArray, List.set_cons_zero, List.set_cons_succ]
              refine wpAnyH_ready (rs := [24]) (by kernel_rfl) (by simp) ?_
              refine AllReadyH.cons rfl (fun KK hKK => ?_) ?_
              ·
                go_simp
                refine hKK.out _ _ ?_ (fun hHeld => ?_)
                · (try dsimp only)
                  go_keep
                clear hKK KK
                try simp only [Act.put, List.setIfInBounds_toArray, List.set_cons_zero, List.set_cons_succ]
                refine wpAnyH_done (by kernel_rfl) ?_ _
                generalize hW : ((((v2.setCell ⟨w.heap.size, 0, none⟩ (.bool true)).setCell ⟨w.heap.size, 1, none⟩ (.slice kp2 m2 kc2)).setCell ⟨w.heap.size, 2, none⟩ (.slice vp2 m2 vc2)).setCell ⟨w.heap.size, 3, none⟩ (.slice none 0 0)) = WF at hfin ⊢
                have q1 : Own WF (w.heap.size + 1) 9 1 kp2 m2 kc2 (kcl (leafP (L.take (i + 1))).1) := by rw [← hW]; exact (p1.st4 y2 _ _ _ _).mono y2
                have q2 : Own WF (w.heap.size + 1) 49 3 vp2 m2 vc2 (vcl (leafP (L.take (i + 1))).2) := by rw [← hW]; exact (p2.st4 y2 _ _ _ _).mono y2
                have q3 : Kept w WF := by rw [← hW]; exact K2.st4 (Nat.le_refl _) _ _ _ _
                have q4 : m2 ≤ i + 1 := by have a := q1.rw.len; rw [kcl_length, Nat.mul_one] at a; rw [← a]; have b := leafP_length (L.take (i + 1)); have c := List.length_take_le (i + 1) L; omega
                clear hW p1 p2 X2 K2 k2 e0 e1 e2 e3 g0 g1 g2 g3 f0 f1 f2 f3 b0 b1 b2 b3 d0 d1 d2 d3 a0 a1 a2 a3 c0 c1 c2 c3 X1 K1 Kr k1 O1 O2 X K HS hcut hHeld
                go_wp2
                go_roundg (40 - (i + 1))
                case measure => rw [hg.out]; omega
                case rel => exact ⟨i + 1, kp2, m2, kc2, vp2, vc2, by go_num, rfl, by omega, by omega, q4, ⟨hfin⟩, q1, q2, q3⟩
              exact AllReadyH.nil
            exact AllReadyH.nil
          exact AllReadyH.nil
        exact AllReadyH.nil
      · have e40 : i = 40 := by omega
        have h1' : (i : Int) < (n : Int) := by omega
        have h2' : ¬ ((i : Int) < 40) := by omega
        have el : L.take i = L.take 40 := by rw [e40]
        rw [el] at O1 O2
        have HM : Hid (m ≤ 40) := by show m ≤ 40; omega
        clear e40 el HL HC hg hin hi40 hm h1 h2
        obtain ⟨c0, c1, c2, c3⟩ := X.cs
        obtain ⟨⟨g0, f0⟩, ⟨g1, f1⟩, ⟨g2, f2⟩, ⟨g3, f3⟩, hfin⟩ := ready4 X.out (.bool true) (.slice kp m kc) (.slice vp m vc) (.slice none 0 0)
        go_wp2
        have q1 : Own ((((wr.setCell ⟨w.heap.size, 0, none⟩ (.bool true)).setCell ⟨w.heap.size, 1, none⟩ (.slice kp m kc)).setCell ⟨w.heap.size, 2, none⟩ (.slice vp m vc)).setCell ⟨w.heap.size, 3, none⟩ (.slice none 0 0)) w.heap.size 9 1 kp m kc (kcl (leafP (L.take 40)).1) := (O1.st4 (Nat.lt_succ_self _) _ _ _ _).mono (Nat.le_succ _)
        have q2 : Own ((((wr.setCell ⟨w.heap.size, 0, none⟩ (.bool true)).setCell ⟨w.heap.size, 1, none⟩ (.slice kp m kc)).setCell ⟨w.heap.size, 2, none⟩ (.slice vp m vc)).setCell ⟨w.heap.size, 3, none⟩ (.slice none 0 0)) w.heap.size 49 3 vp m vc (vcl (leafP (L.take 40)).2) := (O2.st4 (Nat.lt_succ_self _) _ _ _ _).mono (Nat.le_succ _)
        have q3 : Kept w ((((wr.setCell ⟨w.heap.size, 0, none⟩ (.bool true)).setCell ⟨w.heap.size, 1, none⟩ (.slice kp m kc)).setCell ⟨w.heap.size, 2, none⟩ (.slice vp m vc)).setCell ⟨w.heap.size, 3, none⟩ (.slice none 0 0)) := K.st4 (Nat.le_refl _) _ _ _ _
        generalize hW : ((((wr.setCell ⟨w.heap.size, 0, none⟩ (.bool true)).setCell ⟨w.heap.size, 1, none⟩ (.slice kp m kc)).setCell ⟨w.heap.size, 2, none⟩ (.slice vp m vc)).setCell ⟨w.heap.size, 3, none⟩ (.slice none 0 0)) = WF at hfin q1 q2 q3 ⊢
        refine bodyPost_ret (v := .agg #[.bool true, .slice kp m kc, .slice vp m vc, .slice none 0 0]) ?_ rfl ⟨_, _, _, _, _, rfl, q1, q2, HM.out, q3⟩
        exact results_cell_row (p := 2) rfl _ _ w.heap.size 27 #[.bool true, .slice kp m kc, .slice vp m vc, .slice none 0 0] (0, 0) _ rfl hfin Try.underlying27 rfl size27
    · have el : L.take i = L.take 40 := by
        rw [List.take_of_length_le (by rw [HL.out]; omega), List.take_of_length_le (by rw [HL.out]; omega)]
      have h1' : ¬ ((i : Int) < (n : Int)) := by omega
      rw [el] at O1 O2
      have HM : Hid (m ≤ 40) := by show m ≤ 40; omega
      clear el HL HC hg hin hi40 hm h1
      obtain ⟨c0, c1, c2, c3⟩ := X.cs
      obtain ⟨⟨g0, f0⟩, ⟨g1, f1⟩, ⟨g2, f2⟩, ⟨g3, f3⟩, hfin⟩ := ready4 X.out (.bool true) (.slice kp m kc) (.slice vp m vc) (.slice none 0 0)
      go_wp2
      have q1 : Own ((((wr.setCell ⟨w.heap.size, 0, none⟩ (.bool true)).setCell ⟨w.heap.size, 1, none⟩ (.slice kp m kc)).setCell ⟨w.heap.size, 2, none⟩ (.slice vp m vc)).setCell ⟨w.heap.size, 3, none⟩ (.slice none 0 0)) w.heap.size 9 1 kp m kc (kcl (leafP (L.take 40)).1) := (O1.st4 (Nat.lt_succ_self _) _ _ _ _).mono (Nat.le_succ _)
      have q2 : Own ((((wr.setCell ⟨w.heap.size, 0, none⟩ (.bool true)).setCell ⟨w.heap.size, 1, none⟩ (.slice kp m kc)).setCell ⟨w.heap.size, 2, none⟩ (.slice vp m vc)).setCell ⟨w.heap.size, 3, none⟩ (.slice none 0 0)) w.heap.size 49 3 vp m vc (vcl (leafP (L.take 40)).2) := (O2.st4 (Nat.lt_succ_self _) _ _ _ _).mono (Nat.le_succ _)
      have q3 : Kept w ((((wr.setCell ⟨w.heap.size, 0, none⟩ (.bool true)).setCell ⟨w.heap.size, 1, none⟩ (.slice kp m kc)).setCell ⟨w.heap.size, 2, none⟩ (.slice vp m vc)).setCell ⟨w.heap.size, 3, none⟩ (.slice none 0 0)) := K.st4 (Nat.le_refl _) _ _ _ _
      generalize hW : ((((wr.setCell ⟨w.heap.size, 0, none⟩ (.bool true)).setCell ⟨w.heap.size, 1, none⟩ (.slice kp m kc)).setCell ⟨w.heap.size, 2, none⟩ (.slice vp m vc)).setCell ⟨w.heap.size, 3, none⟩ (.slice none 0 0)) = WF at hfin q1 q2 q3 ⊢
      refine bodyPost_ret (v := .agg #[.bool true, .slice kp m kc, .slice vp m vc, .slice none 0 0]) ?_ rfl ⟨_, _, _, _, _, rfl, q1, q2, HM.out, q3⟩
      exact results_cell_row (p := 2) rfl _ _ w.heap.size 27 #[.bool true, .slice kp m kc, .slice vp m vc, .slice none 0 0] (0, 0) _ rfl hfin Try.underlying27 rfl size27
end Go.Proofs.Ytgcfollelefmcaa
