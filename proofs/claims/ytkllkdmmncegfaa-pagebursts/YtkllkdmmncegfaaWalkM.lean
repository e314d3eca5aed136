/- Bytes of a text as a list of their own, one of them turned, and their text again; and the walk of the law on whatever a sector says. Conditions: numbers are within their kinds, a string's size is within Go's bound. -/
import Derived.Test.YtkllkdmmncegfaaWalkL
import Derived.Deep.CutRange
namespace Go.Proofs.Ytkllkdmmncegfaa
open Go.ChangeShapes Go.WideShapes Go.ChangeAt Go.RowKit
attribute [local go_sem ↓] Go.wp_at_zero Go.wp_at_succ

/-- The place, as Go reckons it, lies within the text. -/
theorem place (a : Int) (n : Nat) (hn : 0 < n) (hn' : n ≤ 600) : ∃ k : Nat, k < n ∧ (wrap64 (a.tmod (n : Int) + (n : Int))).tmod (n : Int) = (k : Int) := by
  have h1 : a.tmod (n : Int) < n := Int.tmod_lt_of_pos _ (by omega)
  have h2 : -(n : Int) < a.tmod (n : Int) := by
    have := Int.lt_tmod_of_pos a (b := (n : Int)) (by omega)
    exact this
  have h3 : wrap64 (a.tmod (n : Int) + (n : Int)) = a.tmod (n : Int) + (n : Int) := IntWalk.wrap64_in _ ⟨by omega, by omega⟩
  rw [h3]
  have h4 : 0 ≤ a.tmod (n : Int) + (n : Int) := by omega
  generalize a.tmod (n : Int) + (n : Int) = m at *
  rw [Int.tmod_eq_emod_of_nonneg h4]
  exact ⟨(m % (n : Int)).toNat, by have := Int.emod_lt_of_pos m (show 0 < (n : Int) by omega); have := Int.emod_nonneg m (show (n : Int) ≠ 0 by omega); omega, by have := Int.emod_nonneg m (show (n : Int) ≠ 0 by omega); omega⟩

/-- Bytes in memory. -/
structure Bt (W : World) (b : Nat) (l : List Nat) : Prop where
  cell : ∀ i, i < l.length → W.cell? ⟨b, i, none⟩ = some (.int .u8 (l.getD i 0 : Nat))
  free : ∀ i, i < l.length → W.frozen? ⟨b, i, none⟩ = false
  lt : b < W.heap.size

theorem Kept.bt {w w' : World} (h : Kept w w') {b : Nat} {l : List Nat} (k : Bt w b l) : Bt w' b l :=
  ⟨fun i hi => (h.out.cell (p := ⟨b, i, none⟩) k.lt).trans (k.cell i hi), fun i hi => (h.out.frozen (p := ⟨b, i, none⟩) k.lt).trans (k.free i hi), Nat.lt_of_lt_of_le k.lt h.size⟩

theorem Bt.set {w : World} {b : Nat} {l : List Nat} (k : Bt w b l) {i : Nat} (hi : i < l.length) (y : Nat) : Bt (w.setCell ⟨b, i, none⟩ (.int .u8 (y : Nat))) b (l.set i y) := by
  refine ⟨?_, ?_, ?_⟩
  · intro j hj
    rw [List.length_set] at hj
    by_cases e : j = i
    · subst e
      rw [World.cell?_setCell_same _ _ _ (k.cell _ hj)]
      simp [List.getD, hj]
    · rw [World.cell?_setCell_other _ _ _ _ (fun h' => e (congrArg Addr.off h').symm), k.cell j hj]
      have : ¬ i = j := fun h => e h.symm
      simp [List.getD, this]
  · intro j hj
    rw [List.length_set] at hj
    rw [World.frozen?_setCell]; exact k.free j hj
  · have := k.lt
    simpa [World.setCell] using this

theorem Bt.text {w : World} {b : Nat} {l : List Nat} (k : Bt w b l) (cap : Nat) :
    (convert 33 9 (.slice (some ⟨b, 0, none⟩) l.length cap)).run Try.prog w = .ok (.string (bs l)) w := by
  rw [run_convert_bytes_arg w 33 5 Try.underlying33 Try.underlying5 b 0 l.length cap (l.map fun x : Nat => (x : Int)) (by simp) (fun i hi => ?_) 9 Try.underlying9, strOf]
  have hi' : i < l.length := by simpa using hi
  rw [Nat.zero_add, k.cell i hi']
  simp [List.getD, hi']

theorem small_set {l : List Nat} (h : Small l) (i : Nat) {y : Nat} (hy : y < 256) : Small (l.set i y) := by
  intro x hx
  rcases List.mem_or_eq_of_mem_set hx with hx | hx
  · exact h x hx
  · rw [hx]; exact hy

theorem bytes_bt (w : World) (l : List Nat) (hs : Small l) : ∃ cap w', (convert 9 33 (.string (bs l))).run Try.prog w = .ok (.slice (some ⟨w.heap.size, 0, none⟩) l.length cap) w' ∧ Kept w w' ∧ Bt w' w.heap.size l := by
  have h := run_bytes_of_string (P := Try.prog) w 9 33 5 (bs l) Try.underlying9 Try.underlying33 Try.underlying5
  rw [bs_size] at h
  refine ⟨_, _, h, ((Kept.refl w).drew).alloc _, ?_, ?_, ?_⟩
  · intro i hi
    have e := World.cell?_alloc_mark w.drew (bytesRow (bs l) (grownCap w l.length 0 5)) 5 ((bytesRow (bs l) (grownCap w l.length 0 5)).size, (bytesRow (bs l) (grownCap w l.length 0 5)).size + 1) i
    have hz : i < (bs l).data.size := by rw [← bs_size l] at hi; exact hi
    have e2 := bytesRow_at (bs l) (grownCap w l.length 0 5) i hz
    have e3 := bs_get l i (by rw [bs_size]; exact hi)
    rw [Nat.mod_eq_of_lt (hs.getD i)] at e3
    refine e.trans (e2.trans ?_)
    rw [← e3]
    rfl
  · intro i hi
    have hz : i < (bs l).data.size := by rw [← bs_size l] at hi; exact hi
    have : ¬ (bytesRow (bs l) (grownCap w l.length 0 5)).size ≤ i := by
      have := (Array.getElem?_eq_some_iff.1 (bytesRow_at (bs l) (grownCap w l.length 0 5) i hz)).1
      omega
    show (w.drew.alloc _).frozen? ⟨w.drew.heap.size, i, none⟩ = false
    rw [World.frozen?_alloc_mark]
    simp [this]
  · show w.heap.size < (w.heap.push _).size
    simp

set_option maxRecDepth 100000 in
set_option maxHeartbeats 4000000 in
theorem gets_A (kd nm a : Int) (g y : Nat) (hy : y < 256) (s D P : ByteArray) (tl : List Nat) (hsm : Small tl) (hln : tl.length ≤ 256) (hD : s.extract 0 (min (s.size : Int) 237).toNat = D) (hT : P = bs tl) (he : P.toList.isEmpty = false) (i : Nat) (hi : i < tl.length) (hI : (wrap64 (a.tmod (tl.length : Int) + (tl.length : Int))).tmod (tl.length : Int) = (i : Int))
    (f7 : ∀ W, Calls Try.prog 7 #[.agg #[.int .i64 (bits .and .i64 kd 7), .int .i64 (bits .and .i64 nm 32767), .int .u64 (g : Nat), .string D]] W fun e w' => e = .returned (.string P) ∧ Kept W w')
    (K M : Int) (G : Int) (E : ByteArray)
    (f10 : ∀ W, Calls Try.prog 10 #[.string (bs (tl.set i (tl.getD i 0 ^^^ y)))] W fun e w' => e = .returned (.tuple #[.agg #[.int .i64 K, .int .i64 M, .int .u64 G, .string E], .int .i64 0]) ∧ Kept W w')
    (f11 : ∀ W, Calls Try.prog 11 #[.string (bs (tl.set i (tl.getD i 0 ^^^ y)))] W fun e w' => e = .returned (.tuple #[.agg #[.int .i64 K, .int .i64 M, .int .u64 G, .string E], .bool true]) ∧ Kept W w') (w : World) :
    Calls Try.prog 4 #[.agg #[.int .i64 kd, .int .i64 nm, .int .u64 (g : Nat), .string s], .int .i64 a, .int .u8 (y : Nat)] w fun e w' => e = .returned (.bool true) ∧ Kept w w' := by
  have m1 : (0 : Int) ≤ min (s.size : Int) 237 := by omega
  have m2 : min (s.size : Int) 237 ≤ (s.size : Int) := by omega
  have P0 := Pg.alloc (w.alloc (.cells #[.int .i64 kd, .int .i64 nm, .int .u64 (g : Nat), .string s] 24)) (bits .and .i64 kd 7) (bits .and .i64 nm 32767) g D 24
  rw [show (w.alloc (.cells #[.int .i64 kd, .int .i64 nm, .int .u64 (g : Nat), .string s] 24)).heap.size = w.heap.size + 1 by simp] at P0
  have P0 := ((Kept.refl _).drew).pg P0
  have HC : Hid (∀ W, ∃ cap w', (convert 9 33 (.string P)).run Try.prog W = .ok (.slice (some ⟨W.heap.size, 0, none⟩) tl.length cap) w' ∧ Kept W w' ∧ Bt w' W.heap.size tl) := by
    intro W
    have := bytes_bt W tl hsm
    rwa [← hT] at this
  have hxor := u8_xor_nat (tl.getD i 0) y (hsm.getD i) hy
  obtain ⟨X, hX⟩ : ∃ X, tl.getD i 0 = X := ⟨_, rfl⟩
  rw [hX] at f10 f11 hxor
  have HX : Hid (tl.getD i 0 = X) := hX
  clear hX
  generalize X ^^^ y = Y at *
  clear hT hsm
  obtain ⟨k1, hk1⟩ : ∃ k1, bits .and .i64 kd 7 = k1 := ⟨_, rfl⟩
  obtain ⟨n1, hn1⟩ : ∃ n1, bits .and .i64 nm 32767 = n1 := ⟨_, rfl⟩
  rw [hk1, hn1] at f7 P0
  go_enter Try.func4, Try.ntmps4
  go_upto_region 2 with fail
  go_cut [] from 15 to 30 (fun wx => wx = ((w.alloc (.cells #[.int .i64 kd, .int .i64 nm, .int .u64 (g : Nat), .string s] 24)).alloc (.cells #[.int .i64 k1, .int .i64 n1, .int .u64 (g : Nat), .string D] 24)).drew)
  case first =>
    go_region_held3 (fun W => W.cell? ⟨w.heap.size, 0, none⟩ = some (.int .i64 kd) ∧ W.cell? ⟨w.heap.size, 1, none⟩ = some (.int .i64 nm) ∧ W.cell? ⟨w.heap.size, 3, none⟩ = some (.string s)) (go_keep) (fail)
    all_goals go_wp2_with fail
    all_goals go_meet
    all_goals rfl
  case rest =>
    obtain rfl := hcut
    obtain ⟨p0, p1, p2, p3⟩ := P0.cs
    have K0 : Hid (Kept w ((w.alloc (.cells #[.int .i64 kd, .int .i64 nm, .int .u64 (g : Nat), .string s] 24)).alloc (.cells #[.int .i64 k1, .int .i64 n1, .int .u64 (g : Nat), .string D] 24)).drew) := (((Kept.refl w).alloc _).alloc _).drew
    go_wp2_with (first
      | (go_at_call 7; with_reducible refine (f7 _).mono ?_; rintro e v1 ⟨rfl, q1⟩; have P1 := q1.pg P0; obtain ⟨p10, p11, p12, p13⟩ := P1.cs; obtain ⟨cap, v2, hcv, q2, B2⟩ := HC.out v1 ; have hcc := B2.cell i hi; rw [HX.out] at hcc; have hff := B2.free i hi; have B2s := B2.set hi Y; have hc2 := B2s.text cap; rw [List.length_set] at hc2)
      | (go_at_call 10; with_reducible refine (f10 _).mono ?_; rintro e v3 ⟨rfl, q3⟩; have B3 := (q3.alloc (.cells #[.int .i64 K, .int .i64 M, .int .u64 G, .string E] 24)).bt B2s; have hc3 := B3.text cap; rw [List.length_set] at hc3; have Y3 := Pg.alloc v3 K M G E 24)
      | (go_at_call 11; with_reducible refine (f11 _).mono ?_; rintro e v4 ⟨rfl, q4⟩; have Y4 := (q4.alloc (.cells #[.int .i64 K, .int .i64 M, .int .u64 G, .string E] 27)).pg Y3; have Z4 := Pg.alloc v4 K M G E 27)
      | (go_at_call 8; with_reducible refine (awake_walk _).mono ?_; rintro e v5 ⟨rfl, q5⟩; have Y5 := q5.pg Y4; have Z5 := q5.pg Z4; obtain ⟨y0, y1, y2, y3⟩ := Y5.cs; obtain ⟨z0, z1, z2, z3⟩ := Z5.cs))
    go_ret
    have k1' := K0.out.trans q1
    have k2' := k1'.trans q2
    have k3' := k2'.set (a := ⟨v1.heap.size, i, none⟩) k1'.size (.int .u8 (Y : Nat))
    exact ⟨rfl, ((((k3'.trans q3).alloc _).trans q4).alloc _).trans q5⟩

set_option maxRecDepth 100000 in
set_option maxHeartbeats 4000000 in
theorem gets_B (kd nm a : Int) (g y : Nat) (hy : y < 256) (s D P : ByteArray) (tl : List Nat) (hsm : Small tl) (hln : tl.length ≤ 256) (hD : s.extract 0 (min (s.size : Int) 237).toNat = D) (hT : P = bs tl) (he : P.toList.isEmpty = false) (i : Nat) (hi : i < tl.length) (hI : (wrap64 (a.tmod (tl.length : Int) + (tl.length : Int))).tmod (tl.length : Int) = (i : Int))
    (f7 : ∀ W, Calls Try.prog 7 #[.agg #[.int .i64 (bits .and .i64 kd 7), .int .i64 (bits .and .i64 nm 32767), .int .u64 (g : Nat), .string D]] W fun e w' => e = .returned (.string P) ∧ Kept W w')
    (K M : Int) (G : Int) (E : ByteArray)
    (f10 : ∀ W, Calls Try.prog 10 #[.string (bs (tl.set i (tl.getD i 0 ^^^ y)))] W fun e w' => e = .returned (.tuple #[.agg #[.int .i64 0, .int .i64 0, .int .u64 0, .string ⟨#[]⟩], .int .i64 3]) ∧ Kept W w')
    (f11 : ∀ W, Calls Try.prog 11 #[.string (bs (tl.set i (tl.getD i 0 ^^^ y)))] W fun e w' => e = .returned (.tuple #[.agg #[.int .i64 K, .int .i64 M, .int .u64 G, .string E], .bool false]) ∧ Kept W w') (w : World) :
    Calls Try.prog 4 #[.agg #[.int .i64 kd, .int .i64 nm, .int .u64 (g : Nat), .string s], .int .i64 a, .int .u8 (y : Nat)] w fun e w' => e = .returned (.bool true) ∧ Kept w w' := by
  have m1 : (0 : Int) ≤ min (s.size : Int) 237 := by omega
  have m2 : min (s.size : Int) 237 ≤ (s.size : Int) := by omega
  have P0 := Pg.alloc (w.alloc (.cells #[.int .i64 kd, .int .i64 nm, .int .u64 (g : Nat), .string s] 24)) (bits .and .i64 kd 7) (bits .and .i64 nm 32767) g D 24
  rw [show (w.alloc (.cells #[.int .i64 kd, .int .i64 nm, .int .u64 (g : Nat), .string s] 24)).heap.size = w.heap.size + 1 by simp] at P0
  have P0 := ((Kept.refl _).drew).pg P0
  have HC : Hid (∀ W, ∃ cap w', (convert 9 33 (.string P)).run Try.prog W = .ok (.slice (some ⟨W.heap.size, 0, none⟩) tl.length cap) w' ∧ Kept W w' ∧ Bt w' W.heap.size tl) := by
    intro W
    have := bytes_bt W tl hsm
    rwa [← hT] at this
  have hxor := u8_xor_nat (tl.getD i 0) y (hsm.getD i) hy
  obtain ⟨X, hX⟩ : ∃ X, tl.getD i 0 = X := ⟨_, rfl⟩
  rw [hX] at f10 f11 hxor
  have HX : Hid (tl.getD i 0 = X) := hX
  clear hX
  generalize X ^^^ y = Y at *
  clear hT hsm
  obtain ⟨k1, hk1⟩ : ∃ k1, bits .and .i64 kd 7 = k1 := ⟨_, rfl⟩
  obtain ⟨n1, hn1⟩ : ∃ n1, bits .and .i64 nm 32767 = n1 := ⟨_, rfl⟩
  rw [hk1, hn1] at f7 P0
  go_enter Try.func4, Try.ntmps4
  go_upto_region 2 with fail
  go_cut [] from 15 to 30 (fun wx => wx = ((w.alloc (.cells #[.int .i64 kd, .int .i64 nm, .int .u64 (g : Nat), .string s] 24)).alloc (.cells #[.int .i64 k1, .int .i64 n1, .int .u64 (g : Nat), .string D] 24)).drew)
  case first =>
    go_region_held3 (fun W => W.cell? ⟨w.heap.size, 0, none⟩ = some (.int .i64 kd) ∧ W.cell? ⟨w.heap.size, 1, none⟩ = some (.int .i64 nm) ∧ W.cell? ⟨w.heap.size, 3, none⟩ = some (.string s)) (go_keep) (fail)
    all_goals go_wp2_with fail
    all_goals go_meet
    all_goals rfl
  case rest =>
    obtain rfl := hcut
    obtain ⟨p0, p1, p2, p3⟩ := P0.cs
    have K0 : Hid (Kept w ((w.alloc (.cells #[.int .i64 kd, .int .i64 nm, .int .u64 (g : Nat), .string s] 24)).alloc (.cells #[.int .i64 k1, .int .i64 n1, .int .u64 (g : Nat), .string D] 24)).drew) := (((Kept.refl w).alloc _).alloc _).drew
    go_wp2_with (first
      | (go_at_call 7; with_reducible refine (f7 _).mono ?_; rintro e v1 ⟨rfl, q1⟩; have P1 := q1.pg P0; obtain ⟨p10, p11, p12, p13⟩ := P1.cs; obtain ⟨cap, v2, hcv, q2, B2⟩ := HC.out v1 ; have hcc := B2.cell i hi; rw [HX.out] at hcc; have hff := B2.free i hi; have B2s := B2.set hi Y; have hc2 := B2s.text cap; rw [List.length_set] at hc2)
      | (go_at_call 10; with_reducible refine (f10 _).mono ?_; rintro e v3 ⟨rfl, q3⟩; have B3 := (q3.alloc (.cells #[.int .i64 0, .int .i64 0, .int .u64 0, .string ⟨#[]⟩] 24)).bt B2s; have hc3 := B3.text cap; rw [List.length_set] at hc3; have Y3 := Pg.alloc v3 0 0 0 ⟨#[]⟩ 24)
      | (go_at_call 11; with_reducible refine (f11 _).mono ?_; rintro e v4 ⟨rfl, q4⟩; have Y4 := (q4.alloc (.cells #[.int .i64 K, .int .i64 M, .int .u64 G, .string E] 27)).pg Y3; have Z4 := Pg.alloc v4 K M G E 27)
      | (go_at_call 8; with_reducible refine (awake_walk _).mono ?_; rintro e v5 ⟨rfl, q5⟩; have Y5 := q5.pg Y4; have Z5 := q5.pg Z4; obtain ⟨y0, y1, y2, y3⟩ := Y5.cs; obtain ⟨z0, z1, z2, z3⟩ := Z5.cs))
    go_ret
    have k1' := K0.out.trans q1
    have k2' := k1'.trans q2
    have k3' := k2'.set (a := ⟨v1.heap.size, i, none⟩) k1'.size (.int .u8 (Y : Nat))
    exact ⟨rfl, ((((k3'.trans q3).alloc _).trans q4).alloc _).trans q5⟩

set_option maxRecDepth 100000 in
set_option maxHeartbeats 4000000 in
theorem gets_D (kd nm a : Int) (g y : Nat) (hy : y < 256) (s D : ByteArray) (tl : List Nat) (hsm : Small tl) (hln : tl.length ≤ 256) (hD : s.extract 0 (min (s.size : Int) 237).toNat = D) (hT : D = bs tl) (i : Nat) (hi : i < tl.length) (hI : (wrap64 (a.tmod (tl.length : Int) + (tl.length : Int))).tmod (tl.length : Int) = (i : Int))
    (f7 : ∀ W, Calls Try.prog 7 #[.agg #[.int .i64 (bits .and .i64 kd 7), .int .i64 (bits .and .i64 nm 32767), .int .u64 (g : Nat), .string D]] W fun e w' => e = .returned (.string ⟨#[]⟩) ∧ Kept W w')
    (K M : Int) (G : Int) (E : ByteArray)
    (f10 : ∀ W, Calls Try.prog 10 #[.string (bs (tl.set i (tl.getD i 0 ^^^ y)))] W fun e w' => e = .returned (.tuple #[.agg #[.int .i64 0, .int .i64 0, .int .u64 0, .string ⟨#[]⟩], .int .i64 3]) ∧ Kept W w')
    (f11 : ∀ W, Calls Try.prog 11 #[.string (bs (tl.set i (tl.getD i 0 ^^^ y)))] W fun e w' => e = .returned (.tuple #[.agg #[.int .i64 K, .int .i64 M, .int .u64 G, .string E], .bool false]) ∧ Kept W w') (w : World) :
    Calls Try.prog 4 #[.agg #[.int .i64 kd, .int .i64 nm, .int .u64 (g : Nat), .string s], .int .i64 a, .int .u8 (y : Nat)] w fun e w' => e = .returned (.bool true) ∧ Kept w w' := by
  have m1 : (0 : Int) ≤ min (s.size : Int) 237 := by omega
  have m2 : min (s.size : Int) 237 ≤ (s.size : Int) := by omega
  have P0 := Pg.alloc (w.alloc (.cells #[.int .i64 kd, .int .i64 nm, .int .u64 (g : Nat), .string s] 24)) (bits .and .i64 kd 7) (bits .and .i64 nm 32767) g D 24
  rw [show (w.alloc (.cells #[.int .i64 kd, .int .i64 nm, .int .u64 (g : Nat), .string s] 24)).heap.size = w.heap.size + 1 by simp] at P0
  have P0 := ((Kept.refl _).drew).pg P0
  have HC : Hid (∀ W, ∃ cap w', (convert 9 33 (.string D)).run Try.prog W = .ok (.slice (some ⟨W.heap.size, 0, none⟩) tl.length cap) w' ∧ Kept W w' ∧ Bt w' W.heap.size tl) := by
    intro W
    have := bytes_bt W tl hsm
    rwa [← hT] at this
  have hxor := u8_xor_nat (tl.getD i 0) y (hsm.getD i) hy
  obtain ⟨X, hX⟩ : ∃ X, tl.getD i 0 = X := ⟨_, rfl⟩
  rw [hX] at f10 f11 hxor
  have HX : Hid (tl.getD i 0 = X) := hX
  clear hX
  generalize X ^^^ y = Y at *
  clear hT hsm
  obtain ⟨k1, hk1⟩ : ∃ k1, bits .and .i64 kd 7 = k1 := ⟨_, rfl⟩
  obtain ⟨n1, hn1⟩ : ∃ n1, bits .and .i64 nm 32767 = n1 := ⟨_, rfl⟩
  rw [hk1, hn1] at f7 P0
  go_enter Try.func4, Try.ntmps4
  go_upto_region 2 with fail
  go_cut [] from 15 to 30 (fun wx => wx = ((w.alloc (.cells #[.int .i64 kd, .int .i64 nm, .int .u64 (g : Nat), .string s] 24)).alloc (.cells #[.int .i64 k1, .int .i64 n1, .int .u64 (g : Nat), .string D] 24)).drew)
  case first =>
    go_region_held3 (fun W => W.cell? ⟨w.heap.size, 0, none⟩ = some (.int .i64 kd) ∧ W.cell? ⟨w.heap.size, 1, none⟩ = some (.int .i64 nm) ∧ W.cell? ⟨w.heap.size, 3, none⟩ = some (.string s)) (go_keep) (fail)
    all_goals go_wp2_with fail
    all_goals go_meet
    all_goals rfl
  case rest =>
    obtain rfl := hcut
    obtain ⟨p0, p1, p2, p3⟩ := P0.cs
    have K0 : Hid (Kept w ((w.alloc (.cells #[.int .i64 kd, .int .i64 nm, .int .u64 (g : Nat), .string s] 24)).alloc (.cells #[.int .i64 k1, .int .i64 n1, .int .u64 (g : Nat), .string D] 24)).drew) := (((Kept.refl w).alloc _).alloc _).drew
    go_wp2_with (first
      | (go_at_call 7; with_reducible refine (f7 _).mono ?_; rintro e v1 ⟨rfl, q1⟩; have P1 := q1.pg P0; obtain ⟨p10, p11, p12, p13⟩ := P1.cs; obtain ⟨cap, v2, hcv, q2, B2⟩ := HC.out v1 ; have hcc := B2.cell i hi; rw [HX.out] at hcc; have hff := B2.free i hi; have B2s := B2.set hi Y; have hc2 := B2s.text cap; rw [List.length_set] at hc2)
      | (go_at_call 10; with_reducible refine (f10 _).mono ?_; rintro e v3 ⟨rfl, q3⟩; have B3 := (q3.alloc (.cells #[.int .i64 0, .int .i64 0, .int .u64 0, .string ⟨#[]⟩] 24)).bt B2s; have hc3 := B3.text cap; rw [List.length_set] at hc3; have Y3 := Pg.alloc v3 0 0 0 ⟨#[]⟩ 24)
      | (go_at_call 11; with_reducible refine (f11 _).mono ?_; rintro e v4 ⟨rfl, q4⟩; have Y4 := (q4.alloc (.cells #[.int .i64 K, .int .i64 M, .int .u64 G, .string E] 27)).pg Y3; have Z4 := Pg.alloc v4 K M G E 27)
      | (go_at_call 8; with_reducible refine (awake_walk _).mono ?_; rintro e v5 ⟨rfl, q5⟩; have Y5 := q5.pg Y4; have Z5 := q5.pg Z4; obtain ⟨y0, y1, y2, y3⟩ := Y5.cs; obtain ⟨z0, z1, z2, z3⟩ := Z5.cs))
    go_ret
    have k1' := K0.out.trans q1
    have k2' := k1'.trans q2
    have k3' := k2'.set (a := ⟨v1.heap.size, i, none⟩) k1'.size (.int .u8 (Y : Nat))
    exact ⟨rfl, ((((k3'.trans q3).alloc _).trans q4).alloc _).trans q5⟩

set_option maxRecDepth 100000 in
set_option maxHeartbeats 4000000 in
theorem gets_F (kd nm a : Int) (g y : Nat)  (s D : ByteArray) (tl : List Nat) (hsm : Small tl)  (hD : s.extract 0 (min (s.size : Int) 237).toNat = D) (hT : D = bs tl) (h0 : tl.length = 0)
    (f7 : ∀ W, Calls Try.prog 7 #[.agg #[.int .i64 (bits .and .i64 kd 7), .int .i64 (bits .and .i64 nm 32767), .int .u64 (g : Nat), .string D]] W fun e w' => e = .returned (.string ⟨#[]⟩) ∧ Kept W w')
    (K M : Int) (G : Int) (E : ByteArray)
    (f10 : ∀ W, Calls Try.prog 10 #[.string (bs tl)] W fun e w' => e = .returned (.tuple #[.agg #[.int .i64 0, .int .i64 0, .int .u64 0, .string ⟨#[]⟩], .int .i64 3]) ∧ Kept W w')
    (f11 : ∀ W, Calls Try.prog 11 #[.string (bs tl)] W fun e w' => e = .returned (.tuple #[.agg #[.int .i64 K, .int .i64 M, .int .u64 G, .string E], .bool false]) ∧ Kept W w') (w : World) :
    Calls Try.prog 4 #[.agg #[.int .i64 kd, .int .i64 nm, .int .u64 (g : Nat), .string s], .int .i64 a, .int .u8 (y : Nat)] w fun e w' => e = .returned (.bool true) ∧ Kept w w' := by
  have m1 : (0 : Int) ≤ min (s.size : Int) 237 := by omega
  have m2 : min (s.size : Int) 237 ≤ (s.size : Int) := by omega
  have P0 := Pg.alloc (w.alloc (.cells #[.int .i64 kd, .int .i64 nm, .int .u64 (g : Nat), .string s] 24)) (bits .and .i64 kd 7) (bits .and .i64 nm 32767) g D 24
  rw [show (w.alloc (.cells #[.int .i64 kd, .int .i64 nm, .int .u64 (g : Nat), .string s] 24)).heap.size = w.heap.size + 1 by simp] at P0
  have P0 := ((Kept.refl _).drew).pg P0
  have HC : Hid (∀ W, ∃ cap w', (convert 9 33 (.string D)).run Try.prog W = .ok (.slice (some ⟨W.heap.size, 0, none⟩) tl.length cap) w' ∧ Kept W w' ∧ Bt w' W.heap.size tl) := by
    intro W
    have := bytes_bt W tl hsm
    rwa [← hT] at this
  clear hT hsm
  obtain ⟨k1, hk1⟩ : ∃ k1, bits .and .i64 kd 7 = k1 := ⟨_, rfl⟩
  obtain ⟨n1, hn1⟩ : ∃ n1, bits .and .i64 nm 32767 = n1 := ⟨_, rfl⟩
  rw [hk1, hn1] at f7 P0
  go_enter Try.func4, Try.ntmps4
  go_upto_region 2 with fail
  go_cut [] from 15 to 30 (fun wx => wx = ((w.alloc (.cells #[.int .i64 kd, .int .i64 nm, .int .u64 (g : Nat), .string s] 24)).alloc (.cells #[.int .i64 k1, .int .i64 n1, .int .u64 (g : Nat), .string D] 24)).drew)
  case first =>
    go_region_held3 (fun W => W.cell? ⟨w.heap.size, 0, none⟩ = some (.int .i64 kd) ∧ W.cell? ⟨w.heap.size, 1, none⟩ = some (.int .i64 nm) ∧ W.cell? ⟨w.heap.size, 3, none⟩ = some (.string s)) (go_keep) (fail)
    all_goals go_wp2_with fail
    all_goals go_meet
    all_goals rfl
  case rest =>
    obtain rfl := hcut
    obtain ⟨p0, p1, p2, p3⟩ := P0.cs
    have K0 : Hid (Kept w ((w.alloc (.cells #[.int .i64 kd, .int .i64 nm, .int .u64 (g : Nat), .string s] 24)).alloc (.cells #[.int .i64 k1, .int .i64 n1, .int .u64 (g : Nat), .string D] 24)).drew) := (((Kept.refl w).alloc _).alloc _).drew
    go_wp2_with (first
      | (go_at_call 7; with_reducible refine (f7 _).mono ?_; rintro e v1 ⟨rfl, q1⟩; have P1 := q1.pg P0; obtain ⟨p10, p11, p12, p13⟩ := P1.cs; obtain ⟨cap, v2, hcv, q2, B2⟩ := HC.out v1 ; have hc2 := B2.text cap; rw [h0] at hc2 hcv)
      | (go_at_call 10; with_reducible refine (f10 _).mono ?_; rintro e v3 ⟨rfl, q3⟩; have B3 := (q3.alloc (.cells #[.int .i64 0, .int .i64 0, .int .u64 0, .string ⟨#[]⟩] 24)).bt B2; have hc3 := B3.text cap; rw [h0] at hc3; have Y3 := Pg.alloc v3 0 0 0 ⟨#[]⟩ 24)
      | (go_at_call 11; with_reducible refine (f11 _).mono ?_; rintro e v4 ⟨rfl, q4⟩; have Y4 := (q4.alloc (.cells #[.int .i64 K, .int .i64 M, .int .u64 G, .string E] 27)).pg Y3; have Z4 := Pg.alloc v4 K M G E 27)
      | (go_at_call 8; with_reducible refine (awake_walk _).mono ?_; rintro e v5 ⟨rfl, q5⟩; have Y5 := q5.pg Y4; have Z5 := q5.pg Z4; obtain ⟨y0, y1, y2, y3⟩ := Y5.cs; obtain ⟨z0, z1, z2, z3⟩ := Z5.cs))
    go_ret
    have k1' := K0.out.trans q1
    have k2' := k1'.trans q2
    exact ⟨rfl, ((((k2'.trans q3).alloc _).trans q4).alloc _).trans q5⟩

theorem gets_walk (kd nm : Int) (g : Nat) (hg : g < 18446744073709551616) (s : ByteArray) (a : Int) (y : Nat) (hy : y < 256) (w : World) :
    Calls Try.prog 4 #[.agg #[.int .i64 kd, .int .i64 nm, .int .u64 (g : Nat), .string s], .int .i64 a, .int .u8 (y : Nat)] w fun e w' => e = .returned (.bool true) ∧ Kept w w' := by
  obtain ⟨D, hD⟩ : ∃ D, s.extract 0 (min (s.size : Int) 237).toNat = D := ⟨_, rfl⟩
  have f7 := rput_walk (bits .and .i64 kd 7) (bits .and .i64 nm 32767) g hg (un D)
  rw [bs_un] at f7
  have hDz : D.size ≤ 237 := by rw [← hD, ByteArray.size_extract]; omega
  have key : ∀ t : List Nat, Small t →
      (Okk t ∧ (∀ W, Calls Try.prog 10 #[.string (bs t)] W fun e w' => e = .returned (.tuple #[.agg #[.int .i64 (fK t : Nat), .int .i64 (fN t : Nat), .int .u64 (fG t : Nat), .string (bs (fD t))], .int .i64 0]) ∧ Kept W w') ∧
        (∀ W, Calls Try.prog 11 #[.string (bs t)] W fun e w' => e = .returned (.tuple #[.agg #[.int .i64 (fK t : Nat), .int .i64 (fN t : Nat), .int .u64 (fG t : Nat), .string (bs (fD t))], .bool true]) ∧ Kept W w')) ∨
      (¬ Okk t ∧ (∀ W, Calls Try.prog 10 #[.string (bs t)] W fun e w' => e = .returned (.tuple #[.agg #[.int .i64 0, .int .i64 0, .int .u64 0, .string ⟨#[]⟩], .int .i64 3]) ∧ Kept W w') ∧
        ∃ (K M G : Int) (E : ByteArray), ∀ W, Calls Try.prog 11 #[.string (bs t)] W fun e w' => e = .returned (.tuple #[.agg #[.int .i64 K, .int .i64 M, .int .u64 G, .string E], .bool false]) ∧ Kept W w') := by
    intro t ht
    by_cases ho : Okk t
    · have h3 := (okk_iff t).1 ho
      obtain ⟨v, hc, hv, _⟩ := rget_walk t ht
      rw [decide_eq_true h3, hv h3] at hc
      exact .inl ⟨ho, get_yes t ht ho, hc⟩
    · have h3 : ¬ (t.length = 256 ∧ fC t ≤ 237 ∧ said t = t) := fun h => ho ((okk_iff t).2 h)
      obtain ⟨v, hc, _, K, M, G, E, hE⟩ := rget_walk t ht
      rw [decide_eq_false h3, hE] at hc
      exact .inr ⟨ho, get_no t ht ho, K, M, G, E, hc⟩
  by_cases hm : putL (bits .and .i64 kd 7) (bits .and .i64 nm 32767) g (un D) = []
  · rw [hm] at f7
    by_cases h0 : (un D).length = 0
    · have hnil : un D = [] := List.eq_nil_of_length_eq_zero h0
      rcases key (un D) (un_small D) with ⟨ho, _⟩ | ⟨_, f10, K, M, G, E, f11⟩
      · rw [hnil] at ho
        exact absurd ho empty_not
      · exact gets_F kd nm a g y s D (un D) (un_small D) hD (bs_un D).symm h0 f7 K M G E f10 f11 w
    · have hz : (un D).length ≤ 237 := by rw [un_length]; exact hDz
      obtain ⟨i, hi, hI⟩ := place a (un D).length (by omega) (by omega)
      have hsm : Small ((un D).set i ((un D).getD i 0 ^^^ y)) := small_set (un_small D) i (Nat.xor_lt_two_pow (n := 8) ((un_small D).getD i) hy)
      rcases key _ hsm with ⟨ho, _⟩ | ⟨_, f10, K, M, G, E, f11⟩
      · have := ((okk_iff _).1 ho).1
        rw [List.length_set] at this
        omega
      · exact gets_D kd nm a g y hy s D (un D) (un_small D) (by omega) hD (bs_un D).symm i hi hI f7 K M G E f10 f11 w
  · have hsm0 := putL_small (bits .and .i64 kd 7) (bits .and .i64 nm 32767) g (un_small D)
    have hln := putL_length (bits .and .i64 kd 7) (bits .and .i64 nm 32767) g (un D)
    have he : (bs (putL (bits .and .i64 kd 7) (bits .and .i64 nm 32767) g (un D))).toList.isEmpty = false := by
      rw [bs_toList]
      cases hp : putL (bits .and .i64 kd 7) (bits .and .i64 nm 32767) g (un D) with
      | nil => exact absurd hp hm
      | cons x t => rfl
    generalize putL (bits .and .i64 kd 7) (bits .and .i64 nm 32767) g (un D) = tl at *
    have h0 : 0 < tl.length := List.length_pos_iff.2 hm
    obtain ⟨i, hi, hI⟩ := place a tl.length h0 (by omega)
    have hsm : Small (tl.set i (tl.getD i 0 ^^^ y)) := small_set hsm0 i (Nat.xor_lt_two_pow (n := 8) (hsm0.getD i) hy)
    rcases key _ hsm with ⟨_, f10, f11⟩ | ⟨_, f10, K, M, G, E, f11⟩
    · exact gets_A kd nm a g y hy s D (bs tl) tl hsm0 hln hD rfl he i hi hI f7 _ _ _ _ f10 f11 w
    · exact gets_B kd nm a g y hy s D (bs tl) tl hsm0 hln hD rfl he i hi hI f7 K M G E f10 f11 w
end Go.Proofs.Ytkllkdmmncegfaa
