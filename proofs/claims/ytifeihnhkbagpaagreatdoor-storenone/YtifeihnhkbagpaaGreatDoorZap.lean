/- Joined: PWalkG PWalkH PWalkP PWalkQ PWalkS. What is proved of the functions beneath StoreNone. Conditions: those that each row names. -/
import Derived.Test.YtifeihnhkbagpaaGreatDoorZan
import Derived.Test.YtifeihnhkbagpaaGreatDoorZao
import Derived.Deep.RegionHeld3
import Derived.Deep.DrawnRows
import Derived.Laws.ResultCell
import Derived.Laws.Rows
namespace Go.Proofs.YtifeihnhkbagpaaGreatDoor.P
open Go.ChangeShapes Go.WideShapes Go.ChangeAt Go.RowKit
attribute [local go_sem ↓] Go.wp_at_zero Go.wp_at_succ

set_option maxRecDepth 100000 in
theorem may_yes (kd nm : Int) (g : Nat) (s : ByteArray) (h1 : 1 ≤ kd) (h2 : kd ≤ 4) (h3 : 0 ≤ nm) (h4 : nm < 16384) (h5 : s.size ≤ 237) (w : World) :
    Calls Tryz.prog 122 #[.agg #[.int .i64 kd, .int .i64 nm, .int .u64 (g : Nat), .string s]] w fun e w' => e = .returned (.bool true) ∧ Kept w w' := by
  have h5 : (s.size : Int) ≤ 237 := by omega
  go_enter Tryz.func122, Tryz.ntmps122
  go_wp2
  go_ret
  exact ⟨rfl, (Kept.refl w).alloc _⟩

set_option maxRecDepth 100000 in
theorem may_no (kd nm : Int) (g : Nat) (s : ByteArray) (h : ¬ (1 ≤ kd ∧ kd ≤ 4 ∧ 0 ≤ nm ∧ nm < 16384 ∧ s.size ≤ 237)) (w : World) :
    Calls Tryz.prog 122 #[.agg #[.int .i64 kd, .int .i64 nm, .int .u64 (g : Nat), .string s]] w fun e w' => e = .returned (.bool false) ∧ Kept w w' := by
  have HK : Hid (∀ o, Kept w (w.alloc o)) := fun o => (Kept.refl w).alloc o
  by_cases h1 : 1 ≤ kd
  · by_cases h2 : kd ≤ 4
    · by_cases h3 : 0 ≤ nm
      · by_cases h4 : nm < 16384
        · have h5 : ¬ (s.size : Int) ≤ 237 := fun h5 => h ⟨h1, h2, h3, h4, by omega⟩
          clear h
          go_enter Tryz.func122, Tryz.ntmps122
          go_wp2
          go_ret
          exact ⟨rfl, HK.out _⟩
        · clear h
          go_enter Tryz.func122, Tryz.ntmps122
          go_wp2
          go_ret
          exact ⟨rfl, HK.out _⟩
      · clear h
        go_enter Tryz.func122, Tryz.ntmps122
        go_wp2
        go_ret
        exact ⟨rfl, HK.out _⟩
    · clear h
      go_enter Tryz.func122, Tryz.ntmps122
      go_wp2
      go_ret
      exact ⟨rfl, HK.out _⟩
  · clear h
    go_enter Tryz.func122, Tryz.ntmps122
    go_wp2
    go_ret
    exact ⟨rfl, HK.out _⟩

structure Pg (w : World) (b : Nat) (kd nm : Int) (g : Int) (s : ByteArray) (t : TypeId) : Prop where
  out : w.heap[b]? = some (.cells #[.int .i64 kd, .int .i64 nm, .int .u64 g, .string s] t)

theorem Kept.pg {w w' : World} (h : Kept w w') {b : Nat} {kd nm : Int} {g : Int} {s : ByteArray} {t : TypeId} (k : Pg w b kd nm g s t) : Pg w' b kd nm g s t := ⟨h.block k.out⟩
theorem Pg.cs {w : World} {b : Nat} {kd nm : Int} {g : Int} {s : ByteArray} {t : TypeId} (k : Pg w b kd nm g s t) :
    w.cell? ⟨b, 0, none⟩ = some (.int .i64 kd) ∧ w.cell? ⟨b, 1, none⟩ = some (.int .i64 nm) ∧ w.cell? ⟨b, 2, none⟩ = some (.int .u64 g) ∧ w.cell? ⟨b, 3, none⟩ = some (.string s) := by
  refine ⟨?_, ?_, ?_, ?_⟩
  all_goals rw [cell_of_row w b _ _ _ _ k.out]
  all_goals rfl
theorem Pg.alloc (w : World) (kd nm : Int) (g : Int) (s : ByteArray) (t : TypeId) : Pg (w.alloc (.cells #[.int .i64 kd, .int .i64 nm, .int .u64 g, .string s] t)) w.heap.size kd nm g s t :=
  ⟨by show (w.heap.push _)[w.heap.size]? = _; simp⟩

theorem zeros (c : Nat) : (⟨(Lib.repeatL [0] c).toArray⟩ : ByteArray) = bs (List.replicate c 0) := by
  unfold bs
  congr 2
  induction c with
  | zero => rfl
  | succ c ih => simp [Lib.repeatL, List.replicate_succ] at ih ⊢; rw [ih]

set_option maxRecDepth 100000 in
theorem put_no (kd nm : Int) (g : Nat) (s : ByteArray) (h : ¬ (1 ≤ kd ∧ kd ≤ 4 ∧ 0 ≤ nm ∧ nm < 16384 ∧ s.size ≤ 237)) (w : World) :
    Calls Tryz.prog 90 #[.agg #[.int .i64 kd, .int .i64 nm, .int .u64 (g : Nat), .string s]] w fun e w' => e = .returned (.string ⟨#[]⟩) ∧ Kept w w' := by
  have h9 := may_no kd nm g s h
  clear h
  go_enter Tryz.func90, Tryz.ntmps90
  go_wp2_with (go_at_call 122; refine (h9 _).mono ?_; rintro e w1 ⟨rfl, k1⟩)
  go_ret
  exact ⟨rfl, ((Kept.refl w).alloc _).trans k1⟩

set_option maxRecDepth 100000 in
set_option maxHeartbeats 4000000 in
theorem put_yes (k n g : Nat) (l : List Nat) (h1 : 1 ≤ k) (h2 : k ≤ 4) (h4 : n < 16384) (hg : g < 18446744073709551616) (h5 : l.length ≤ 237) (w : World) :
    Calls Tryz.prog 90 #[.agg #[.int .i64 (k : Nat), .int .i64 (n : Nat), .int .u64 (g : Nat), .string (bs l)]] w fun e w' => e = .returned (.string (bs (pageL k n g l))) ∧ Kept w w' := by
  have hz := bs_size l
  have h9 := may_yes k n g (bs l) (by omega) (by omega) (by omega) (by omega) (by omega)
  have a1 := fixed_walk k (by omega) 1
  have a2 := fixed_walk n (by omega) 4
  have a3 := fixed_walk g hg 8
  have a4 := fixed_walk l.length (by omega) 2
  have a5 : ∀ w, Calls Tryz.prog 124 #[.string ⟨#[0]⟩, .int .i64 (237 - (l.length : Int))] w fun e w' => e = .returned (.string (bs (List.replicate (237 - l.length) 0))) ∧ Kept w w' := by
    intro w
    have := Tryz.strings_Repeat ⟨#[0]⟩ (237 - l.length) w (by omega) (by show 1 * (237 - l.length) ≤ 140737488355328; omega)
    rw [show ((237 - l.length : Nat) : Int) = 237 - (l.length : Int) by omega] at this
    refine this.mono ?_
    rintro e w' ⟨rfl, hb⟩
    exact ⟨by rw [← zeros], ⟨hb⟩⟩
  have a6 : ∀ w, Calls Tryz.prog 125 #[.string (bs (headL k n g l))] w fun e w' => e = .returned (.int .u32 (chk (headL k n g l) : Nat)) ∧ Kept w w' :=
    fun w => of_walk (bs (headL k n g l)) (by rw [bs_size, headL_length _ _ _ _ h5]; decide) w
  have hcl := chk_lt (headL k n g l)
  have a7 := fixed_walk (chk (headL k n g l)) (by omega) 4
  rw [show kOf 1 = 1 from rfl] at a1
  rw [show kOf 4 = 4 from rfl] at a2 a7
  rw [show kOf 8 = 8 from rfl] at a3
  rw [show kOf 2 = 2 from rfl] at a4
  have z1 : (bs (fixL k 1)).size = 1 := by rw [bs_size, fixL_length]
  have z2 : (bs (fixL n 4)).size = 4 := by rw [bs_size, fixL_length]
  have z3 : (bs (fixL g 8)).size = 8 := by rw [bs_size, fixL_length]
  have z4 : (bs (fixL l.length 2)).size = 2 := by rw [bs_size, fixL_length]
  have z5 : (bs (List.replicate (237 - l.length) 0)).size = 237 - l.length := by rw [bs_size]; simp
  have z6 : (bs (headL k n g l)).size = 252 := by rw [bs_size, headL_length _ _ _ _ h5]
  have z7 : (bs (fixL (chk (headL k n g l)) 4)).size = 4 := by rw [bs_size, fixL_length]
  have c1 : bs (fixL k 1) ++ bs (fixL n 4) ++ bs (fixL g 8) ++ bs (fixL l.length 2) ++ bs l ++ bs (List.replicate (237 - l.length) 0) = bs (headL k n g l) := by
    simp only [bs_append, headL, List.append_assoc]
  have c2 : bs (headL k n g l) ++ bs (fixL (chk (headL k n g l)) 4) = bs (pageL k n g l) := bs_append _ _
  generalize chk (headL k n g l) = C at *
  generalize bs (pageL k n g l) = R at *
  generalize bs (headL k n g l) = H at *
  generalize bs (fixL k 1) = s1 at *
  generalize bs (fixL n 4) = s2 at *
  generalize bs (fixL g 8) = s3 at *
  generalize bs (fixL l.length 2) = s4 at *
  generalize bs (List.replicate (237 - l.length) 0) = s5 at *
  generalize bs (fixL C 4) = s6 at *
  generalize bs l = s at *
  generalize l.length = L at *
  subst hz
  have u1 : IntKind.u64.wrap (k : Int) = (k : Int) := by rw [IntKind.wrap_u64]; omega
  have u2 : IntKind.u64.wrap (n : Int) = (n : Int) := by rw [IntKind.wrap_u64]; omega
  have u4 : IntKind.u64.wrap (s.size : Int) = (s.size : Int) := by rw [IntKind.wrap_u64]; omega
  have u5 : IntKind.i64.wrap (237 - (s.size : Int)) = 237 - (s.size : Int) := by rw [IntKind.wrap_i64]; omega
  have b0 : (s.size : Int) ≤ 237 := by omega
  have b1 : (s5.size : Int) ≤ 237 := by omega
  have y1 : ¬ 9223372036854775807 < 15 + s.size := by omega
  have y2 : ¬ 9223372036854775807 < 15 + s.size + s5.size := by omega
  clear z5
  go_enter Tryz.func90, Tryz.ntmps90
  go_wp2_with (go_at_call 122; refine (h9 _).mono ?_; rintro e w1 ⟨rfl, k1⟩; have P0 := (k1.drew).pg (Pg.alloc w k n g s 157); obtain ⟨c0, c1, c2, c3⟩ := P0.cs)
  go_region_held3 (fun W => W.cell? ⟨w.heap.size, 0, none⟩ = some (.int .i64 (k : Nat)) ∧ W.cell? ⟨w.heap.size, 1, none⟩ = some (.int .i64 (n : Nat)) ∧ W.cell? ⟨w.heap.size, 2, none⟩ = some (.int .u64 (g : Nat)) ∧ W.cell? ⟨w.heap.size, 3, none⟩ = some (.string s)) (go_keep) (first
    | (go_at_call 123; with_reducible refine (a1 _).mono ?_; rintro e v1 ⟨rfl, q1⟩; have P1 := q1.pg P0; obtain ⟨c10, c11, c12, c13⟩ := P1.cs)
    | (go_at_call 123; with_reducible refine (a2 _).mono ?_; rintro e v2 ⟨rfl, q2⟩; have P2 := q2.pg P1; obtain ⟨c20, c21, c22, c23⟩ := P2.cs)
    | (go_at_call 123; with_reducible refine (a3 _).mono ?_; rintro e v3 ⟨rfl, q3⟩; have P3 := q3.pg P2; obtain ⟨c30, c31, c32, c33⟩ := P3.cs)
    | (go_at_call 123; with_reducible refine (a4 _).mono ?_; rintro e v4 ⟨rfl, q4⟩; have P4 := q4.pg P3; obtain ⟨c40, c41, c42, c43⟩ := P4.cs)
    | (go_at_call 124; with_reducible refine (a5 _).mono ?_; rintro e v5 ⟨rfl, q5⟩; have P5 := q5.pg P4; obtain ⟨c50, c51, c52, c53⟩ := P5.cs))
  all_goals clear P0 P1 P2 P3 P4 P5
  all_goals go_wp2_with (first
    | (go_at_call 125; with_reducible refine (a6 _).mono ?_; rintro e v6 ⟨rfl, q6⟩)
    | (go_at_call 123; with_reducible refine (a7 _).mono ?_; rintro e v7 ⟨rfl, q7⟩))
  all_goals go_ret
  all_goals exact ⟨rfl, ((((((((Kept.refl w).alloc _).trans k1).drew.trans q1).trans q2).trans q3).trans q4).trans q5).trans (q6.trans q7)⟩

theorem put_walk (kd nm : Int) (g : Nat) (hg : g < 18446744073709551616) (l : List Nat) (w : World) :
    Calls Tryz.prog 90 #[.agg #[.int .i64 kd, .int .i64 nm, .int .u64 (g : Nat), .string (bs l)]] w fun e w' => e = .returned (.string (bs (putL kd nm g l))) ∧ Kept w w' := by
  by_cases h : May kd nm l
  · rw [putL_may h]
    obtain ⟨h1, h2, h3, h4, h5⟩ := h
    have := put_yes kd.toNat nm.toNat g l (by omega) (by omega) (by omega) hg h5 w
    rwa [show ((kd.toNat : Nat) : Int) = kd by omega, show ((nm.toNat : Nat) : Int) = nm by omega] at this
  · rw [putL_not h]
    refine put_no kd nm g (bs l) ?_ w
    rw [bs_size]
    exact h

theorem results_two {P : Program} {fn : Func} {p u : Tmp} {ty : TypeId} (h : fn.results = #[.cell p ty, .tmp u]) (tmps : Array Value) (w : World) (g : Nat) (t : TypeId) (cs : Array Value) (fr : Nat × Nat) (d : TypeDesc)
    (hp : tmps.getD p undef = .pointer (some ⟨g, 0, none⟩)) (hg : w.heap[g]? = some (.cells cs t fr))
    (hu : P.underlying ty = some d) (hd : (match d with | .struct _ | .array _ _ => true | _ => false) = true) (hi : (P.info? ty).map (·.size) = some cs.size) :
    (results fn tmps).run P w = .ok (.tuple #[.agg cs, tmps.getD u undef]) w := by
  rw [results_cell_tmp h, hp]
  simp [asAddr, run_loadVar_row w g t ty cs fr d hg hu hd hi]

theorem size157 : (Tryz.prog.info? 157).map (·.size) = some 4 := by kernel_rfl

theorem Pg.fz {w : World} {b : Nat} {kd nm : Int} {g : Int} {s : ByteArray} {t : TypeId} (k : Pg w b kd nm g s t) (j : Nat) : w.frozen? ⟨b, j, none⟩ = false := frozen_of_row w b j _ _ k.out
theorem Pg.lt {w : World} {b : Nat} {kd nm : Int} {g : Int} {s : ByteArray} {t : TypeId} (k : Pg w b kd nm g s t) : b < w.heap.size := (Array.getElem?_eq_some_iff.1 k.out).1
theorem On.pg {c : Nat} {w w' : World} (h : On c w w') {b : Nat} {kd nm : Int} {g : Int} {s : ByteArray} {t : TypeId} (k : Pg w b kd nm g s t) (hb : b ≠ c) : Pg w' b kd nm g s t :=
  ⟨(h.rest b k.lt hb).trans k.out⟩
theorem Pg.set3 {w : World} {b : Nat} {kd nm : Int} {g : Int} {s : ByteArray} {t : TypeId} (k : Pg w b kd nm g s t) (d : ByteArray) : Pg (w.setCell ⟨b, 3, none⟩ (.string d)) b kd nm g d t :=
  ⟨by rw [heap_setCell_same w b 3 _ _ _ k.out]; rfl⟩
theorem Pg.set0 {w : World} {b : Nat} {kd nm : Int} {g : Int} {s : ByteArray} {t : TypeId} (k : Pg w b kd nm g s t) (d : Int) : Pg (w.setCell ⟨b, 0, none⟩ (.int .i64 d)) b d nm g s t :=
  ⟨by rw [heap_setCell_same w b 0 _ _ _ k.out]; rfl⟩
theorem Pg.set1 {w : World} {b : Nat} {kd nm : Int} {g : Int} {s : ByteArray} {t : TypeId} (k : Pg w b kd nm g s t) (d : Int) : Pg (w.setCell ⟨b, 1, none⟩ (.int .i64 d)) b kd d g s t :=
  ⟨by rw [heap_setCell_same w b 1 _ _ _ k.out]; rfl⟩
theorem Pg.set2 {w : World} {b : Nat} {kd nm : Int} {g : Int} {s : ByteArray} {t : TypeId} (k : Pg w b kd nm g s t) (d : Int) : Pg (w.setCell ⟨b, 2, none⟩ (.int .u64 d)) b kd nm d s t :=
  ⟨by rw [heap_setCell_same w b 2 _ _ _ k.out]; rfl⟩
theorem Pg.ready {w : World} {b : Nat} {kd nm : Int} {g : Int} {s : ByteArray} {t : TypeId} (k : Pg w b kd nm g s t) (x y z : Int) :
    (w.cell? ⟨b, 0, none⟩ = some (.int .i64 kd) ∧ w.frozen? ⟨b, 0, none⟩ = false) ∧
    ((w.setCell ⟨b, 0, none⟩ (.int .i64 x)).cell? ⟨b, 1, none⟩ = some (.int .i64 nm) ∧ (w.setCell ⟨b, 0, none⟩ (.int .i64 x)).frozen? ⟨b, 1, none⟩ = false) ∧
    (((w.setCell ⟨b, 0, none⟩ (.int .i64 x)).setCell ⟨b, 1, none⟩ (.int .i64 y)).cell? ⟨b, 2, none⟩ = some (.int .u64 g) ∧ ((w.setCell ⟨b, 0, none⟩ (.int .i64 x)).setCell ⟨b, 1, none⟩ (.int .i64 y)).frozen? ⟨b, 2, none⟩ = false) ∧
    ((((w.setCell ⟨b, 0, none⟩ (.int .i64 x)).setCell ⟨b, 1, none⟩ (.int .i64 y)).setCell ⟨b, 2, none⟩ (.int .u64 z)).cell? ⟨b, 3, none⟩ = some (.string s) ∧ (((w.setCell ⟨b, 0, none⟩ (.int .i64 x)).setCell ⟨b, 1, none⟩ (.int .i64 y)).setCell ⟨b, 2, none⟩ (.int .u64 z)).frozen? ⟨b, 3, none⟩ = false) :=
  have k1 := k.set0 x
  have k2 := k1.set1 y
  have k3 := k2.set2 z
  ⟨⟨k.cs.1, k.fz 0⟩, ⟨k1.cs.2.1, k1.fz 1⟩, ⟨k2.cs.2.2.1, k2.fz 2⟩, k3.cs.2.2.2, k3.fz 3⟩
theorem Pg.fill {w : World} {b : Nat} {kd nm : Int} {g : Int} {s : ByteArray} {t : TypeId} (k : Pg w b kd nm g s t) (x y z : Int) (d : ByteArray) :
    Pg ((((w.setCell ⟨b, 0, none⟩ (.int .i64 x)).setCell ⟨b, 1, none⟩ (.int .i64 y)).setCell ⟨b, 2, none⟩ (.int .u64 z)).setCell ⟨b, 3, none⟩ (.string d)) b x y z d t := (((k.set0 x).set1 y).set2 z).set3 d
theorem Rd.far {w : World} {b : Nat} {s : ByteArray} {e : Int} (k : Rd w b s e) (a : Addr) (v : Value) (h : b ≠ a.block) : Rd (w.setCell a v) b s e :=
  ⟨(heap_setCell_other w a b v h).trans k.out⟩

theorem Kept.row {w W : World} (h : Kept w W) {g : Nat} (hg : w.heap.size ≤ g) (cs : Array Value) : Kept w (W.setRow g cs) := by
  refine ⟨⟨h.out.os, h.out.tape, h.out.output, ?_, ?_⟩⟩
  · show w.heap.size ≤ (W.heap.modify g _).size
    rw [Array.size_modify]; exact h.size
  · intro k hk
    show (W.heap.modify g _)[k]? = _
    rw [Array.getElem?_modify, if_neg (by omega)]
    exact h.out.block k hk

theorem Kept.set {w W : World} (h : Kept w W) {a : Addr} (ha : w.heap.size ≤ a.block) (v : Value) : Kept w (W.setCell a v) := ⟨h.out.setCell ha v⟩

set_option maxRecDepth 100000 in
set_option maxHeartbeats 2000000 in
theorem get_A (S S1 S2 S3 S4 S5 D P : ByteArray) (K N G C : Nat) (x1 x2 x3 x4 x5 : Int) (hK : K < 256) (hN : N < 4294967296) (hC : C < 65536)
    (f1 : ∀ W b, Rd W b S 0 → Calls Tryz.prog 214 #[.pointer (some ⟨b, 0, none⟩), .int .i64 1] W fun e w' => e = .returned (.int .u64 (K : Nat)) ∧ Rd w' b S1 x1 ∧ On b W w')
    (f2 : ∀ W b, Rd W b S1 x1 → Calls Tryz.prog 214 #[.pointer (some ⟨b, 0, none⟩), .int .i64 4] W fun e w' => e = .returned (.int .u64 (N : Nat)) ∧ Rd w' b S2 x2 ∧ On b W w')
    (f3 : ∀ W b, Rd W b S2 x2 → Calls Tryz.prog 214 #[.pointer (some ⟨b, 0, none⟩), .int .i64 8] W fun e w' => e = .returned (.int .u64 (G : Nat)) ∧ Rd w' b S3 x3 ∧ On b W w')
    (f4 : ∀ W b, Rd W b S3 x3 → Calls Tryz.prog 214 #[.pointer (some ⟨b, 0, none⟩), .int .i64 2] W fun e w' => e = .returned (.int .u64 (C : Nat)) ∧ Rd w' b S4 x4 ∧ On b W w')
    (f5 : ∀ W b, Rd W b S4 x4 → Calls Tryz.prog 172 #[.pointer (some ⟨b, 0, none⟩), .int .i64 (C : Nat)] W fun e w' => e = .returned (.string D) ∧ Rd w' b S5 x5 ∧ On b W w')
    (f7 : ∀ W, Calls Tryz.prog 90 #[.agg #[.int .i64 (K : Nat), .int .i64 (N : Nat), .int .u64 (G : Nat), .string D]] W fun e w' => e = .returned (.string P) ∧ Kept W w')
    (hx : (x5 != 0) = true) (w : World) :
    Calls Tryz.prog 176 #[.string S] w fun e w' => e = .returned (.tuple #[.agg #[.int .i64 0, .int .i64 0, .int .u64 0, .string ⟨#[]⟩], .int .i64 3]) ∧ Kept w w' := by
  have F1 : Hid _ := f1
  have F2 : Hid _ := f2
  have F3 : Hid _ := f3
  have F4 : Hid _ := f4
  have F5 : Hid _ := f5
  have F7 : Hid _ := f7
  clear f1 f2 f3 f4 f5 f7
  go_enter Tryz.func176, Tryz.ntmps176
  go_wp2_with (first
    | (go_at_call 168; refine (new_walk S _).mono ?_; rintro e w1 ⟨rfl, r0, k0⟩; have r0 : Rd w1 (w.heap.size + 1) S 0 := (by simpa using r0); have Z1 := k0.pg (Pg.alloc w 0 0 0 ⟨#[]⟩ 157); have k0 : Kept w w1 := ((Kept.refl w).alloc _).trans k0)
    | (go_at_call 214; with_reducible refine (F1.out _ _ r0).mono ?_; rintro e v1 ⟨rfl, r1, o1⟩)
    | (go_at_call 214; with_reducible refine (F2.out _ _ r1).mono ?_; rintro e v2 ⟨rfl, r2, o2⟩)
    | (go_at_call 214; with_reducible refine (F3.out _ _ r2).mono ?_; rintro e v3 ⟨rfl, r3, o3⟩; have o13 := (o1.trans o2).trans o3; have Z3 := o13.pg Z1 (by omega); have b3 := r3.lt; have z3 := Z3.lt; have r3a := ((Kept.refl v3).alloc (.cells #[.int .i64 (K : Nat), .int .i64 (N : Nat), .int .u64 (G : Nat), .string ⟨#[]⟩] 157)).rd r3; have P3 := Pg.alloc v3 K N G ⟨#[]⟩ 157; have Z3a := ((Kept.refl v3).alloc (.cells #[.int .i64 (K : Nat), .int .i64 (N : Nat), .int .u64 (G : Nat), .string ⟨#[]⟩] 157)).pg Z3)
    | (go_at_call 214; with_reducible refine (F4.out _ _ r3a).mono ?_; rintro e v4 ⟨rfl, r4, o4⟩)
    | (go_at_call 172; with_reducible refine (F5.out _ _ r4).mono ?_; rintro e v5 ⟨rfl, r5, o5⟩; have o45 := o4.trans o5; have P5 := o45.pg P3 (by omega); have Z5 := o45.pg Z3a (by omega); have z5 := P5.lt; have P6 := P5.set3 D; have Z6 : Pg (v5.setCell ⟨v3.heap.size, 3, none⟩ (.string D)) w.heap.size 0 0 0 ⟨#[]⟩ 157 := ⟨(heap_setCell_other v5 ⟨v3.heap.size, 3, none⟩ w.heap.size _ (by show w.heap.size ≠ v3.heap.size; omega)).trans Z5.out⟩; have r6 := r5.far ⟨v3.heap.size, 3, none⟩ (.string D) (by show w.heap.size + 1 ≠ v3.heap.size; omega); have cf := P5.fz 3; have c5 := P5.cs.2.2.2; obtain ⟨d0, d1, d2, d3⟩ := P6.cs; obtain ⟨⟨g0, h0⟩, ⟨g1, h1⟩, ⟨g2, h2⟩, g3, h3⟩ := Z6.ready 0 0 0)
    | (go_at_call 174; with_reducible refine (err_walk r6).mono ?_; rintro e v6 ⟨rfl, hv⟩; rw [hv]; clear hv)
    | (go_at_call 90; with_reducible refine (F7.out _).mono ?_; rintro e v7 ⟨rfl, q7⟩; have Z7 := q7.pg Z6; have P7 := q7.pg P6; obtain ⟨a0, a1, a2, a3⟩ := P7.cs; skip))
  refine bodyPost_ret (v := .tuple #[.agg #[.int .i64 0, .int .i64 0, .int .u64 0, .string ⟨#[]⟩], .int .i64 3]) ?_ rfl ⟨rfl, ?_⟩
  · exact results_two (p := 2) (u := 3) (ty := 157) rfl _ _ w.heap.size 157 #[.int .i64 0, .int .i64 0, .int .u64 0, .string ⟨#[]⟩] (0, 0) _ rfl (Z6.fill _ _ _ _).out Tryz.underlying157 rfl size157
  have hk : Kept w (v5.setCell ⟨v3.heap.size, 3, none⟩ (.string D)) := by
    refine Kept.set ?_ (by show w.heap.size ≤ v3.heap.size; omega) _
    exact o45.kept ((o13.kept k0 (by omega)).alloc _) (by omega)
  exact (((hk.set (Nat.le_refl _) _).set (Nat.le_refl _) _).set (Nat.le_refl _) _).set (Nat.le_refl _) _

set_option maxRecDepth 100000 in
set_option maxHeartbeats 2000000 in
theorem get_B (S S1 S2 S3 S4 S5 D P : ByteArray) (K N G C : Nat) (x1 x2 x3 x4 x5 : Int) (hK : K < 256) (hN : N < 4294967296) (hC : C < 65536)
    (f1 : ∀ W b, Rd W b S 0 → Calls Tryz.prog 214 #[.pointer (some ⟨b, 0, none⟩), .int .i64 1] W fun e w' => e = .returned (.int .u64 (K : Nat)) ∧ Rd w' b S1 x1 ∧ On b W w')
    (f2 : ∀ W b, Rd W b S1 x1 → Calls Tryz.prog 214 #[.pointer (some ⟨b, 0, none⟩), .int .i64 4] W fun e w' => e = .returned (.int .u64 (N : Nat)) ∧ Rd w' b S2 x2 ∧ On b W w')
    (f3 : ∀ W b, Rd W b S2 x2 → Calls Tryz.prog 214 #[.pointer (some ⟨b, 0, none⟩), .int .i64 8] W fun e w' => e = .returned (.int .u64 (G : Nat)) ∧ Rd w' b S3 x3 ∧ On b W w')
    (f4 : ∀ W b, Rd W b S3 x3 → Calls Tryz.prog 214 #[.pointer (some ⟨b, 0, none⟩), .int .i64 2] W fun e w' => e = .returned (.int .u64 (C : Nat)) ∧ Rd w' b S4 x4 ∧ On b W w')
    (f5 : ∀ W b, Rd W b S4 x4 → Calls Tryz.prog 172 #[.pointer (some ⟨b, 0, none⟩), .int .i64 (C : Nat)] W fun e w' => e = .returned (.string D) ∧ Rd w' b S5 x5 ∧ On b W w')
    (f7 : ∀ W, Calls Tryz.prog 90 #[.agg #[.int .i64 (K : Nat), .int .i64 (N : Nat), .int .u64 (G : Nat), .string D]] W fun e w' => e = .returned (.string P) ∧ Kept W w')
    (hx : (x5 != 0) = false) (hs : (S.toList == P.toList) = false) (w : World) :
    Calls Tryz.prog 176 #[.string S] w fun e w' => e = .returned (.tuple #[.agg #[.int .i64 0, .int .i64 0, .int .u64 0, .string ⟨#[]⟩], .int .i64 3]) ∧ Kept w w' := by
  have F1 : Hid _ := f1
  have F2 : Hid _ := f2
  have F3 : Hid _ := f3
  have F4 : Hid _ := f4
  have F5 : Hid _ := f5
  have F7 : Hid _ := f7
  clear f1 f2 f3 f4 f5 f7
  go_enter Tryz.func176, Tryz.ntmps176
  go_wp2_with (first
    | (go_at_call 168; refine (new_walk S _).mono ?_; rintro e w1 ⟨rfl, r0, k0⟩; have r0 : Rd w1 (w.heap.size + 1) S 0 := (by simpa using r0); have Z1 := k0.pg (Pg.alloc w 0 0 0 ⟨#[]⟩ 157); have k0 : Kept w w1 := ((Kept.refl w).alloc _).trans k0)
    | (go_at_call 214; with_reducible refine (F1.out _ _ r0).mono ?_; rintro e v1 ⟨rfl, r1, o1⟩)
    | (go_at_call 214; with_reducible refine (F2.out _ _ r1).mono ?_; rintro e v2 ⟨rfl, r2, o2⟩)
    | (go_at_call 214; with_reducible refine (F3.out _ _ r2).mono ?_; rintro e v3 ⟨rfl, r3, o3⟩; have o13 := (o1.trans o2).trans o3; have Z3 := o13.pg Z1 (by omega); have b3 := r3.lt; have z3 := Z3.lt; have r3a := ((Kept.refl v3).alloc (.cells #[.int .i64 (K : Nat), .int .i64 (N : Nat), .int .u64 (G : Nat), .string ⟨#[]⟩] 157)).rd r3; have P3 := Pg.alloc v3 K N G ⟨#[]⟩ 157; have Z3a := ((Kept.refl v3).alloc (.cells #[.int .i64 (K : Nat), .int .i64 (N : Nat), .int .u64 (G : Nat), .string ⟨#[]⟩] 157)).pg Z3)
    | (go_at_call 214; with_reducible refine (F4.out _ _ r3a).mono ?_; rintro e v4 ⟨rfl, r4, o4⟩)
    | (go_at_call 172; with_reducible refine (F5.out _ _ r4).mono ?_; rintro e v5 ⟨rfl, r5, o5⟩; have o45 := o4.trans o5; have P5 := o45.pg P3 (by omega); have Z5 := o45.pg Z3a (by omega); have z5 := P5.lt; have P6 := P5.set3 D; have Z6 : Pg (v5.setCell ⟨v3.heap.size, 3, none⟩ (.string D)) w.heap.size 0 0 0 ⟨#[]⟩ 157 := ⟨(heap_setCell_other v5 ⟨v3.heap.size, 3, none⟩ w.heap.size _ (by show w.heap.size ≠ v3.heap.size; omega)).trans Z5.out⟩; have r6 := r5.far ⟨v3.heap.size, 3, none⟩ (.string D) (by show w.heap.size + 1 ≠ v3.heap.size; omega); have cf := P5.fz 3; have c5 := P5.cs.2.2.2; obtain ⟨d0, d1, d2, d3⟩ := P6.cs)
    | (go_at_call 174; with_reducible refine (err_walk r6).mono ?_; rintro e v6 ⟨rfl, hv⟩; rw [hv]; clear hv)
    | (go_at_call 90; with_reducible refine (F7.out _).mono ?_; rintro e v7 ⟨rfl, q7⟩; have Z7 := q7.pg Z6; have P7 := q7.pg P6; obtain ⟨a0, a1, a2, a3⟩ := P7.cs; obtain ⟨⟨g0, h0⟩, ⟨g1, h1⟩, ⟨g2, h2⟩, g3, h3⟩ := Z7.ready 0 0 0))
  refine bodyPost_ret (v := .tuple #[.agg #[.int .i64 0, .int .i64 0, .int .u64 0, .string ⟨#[]⟩], .int .i64 3]) ?_ rfl ⟨rfl, ?_⟩
  · exact results_two (p := 2) (u := 3) (ty := 157) rfl _ _ w.heap.size 157 #[.int .i64 0, .int .i64 0, .int .u64 0, .string ⟨#[]⟩] (0, 0) _ rfl (Z7.fill _ _ _ _).out Tryz.underlying157 rfl size157
  have hk : Kept w (v5.setCell ⟨v3.heap.size, 3, none⟩ (.string D)) := by
    refine Kept.set ?_ (by show w.heap.size ≤ v3.heap.size; omega) _
    exact o45.kept ((o13.kept k0 (by omega)).alloc _) (by omega)
  exact ((((hk.trans q7).set (Nat.le_refl _) _).set (Nat.le_refl _) _).set (Nat.le_refl _) _).set (Nat.le_refl _) _

set_option maxRecDepth 100000 in
set_option maxHeartbeats 2000000 in
theorem get_C (S S1 S2 S3 S4 S5 D P : ByteArray) (K N G C : Nat) (x1 x2 x3 x4 x5 : Int) (hK : K < 256) (hN : N < 4294967296) (hC : C < 65536)
    (f1 : ∀ W b, Rd W b S 0 → Calls Tryz.prog 214 #[.pointer (some ⟨b, 0, none⟩), .int .i64 1] W fun e w' => e = .returned (.int .u64 (K : Nat)) ∧ Rd w' b S1 x1 ∧ On b W w')
    (f2 : ∀ W b, Rd W b S1 x1 → Calls Tryz.prog 214 #[.pointer (some ⟨b, 0, none⟩), .int .i64 4] W fun e w' => e = .returned (.int .u64 (N : Nat)) ∧ Rd w' b S2 x2 ∧ On b W w')
    (f3 : ∀ W b, Rd W b S2 x2 → Calls Tryz.prog 214 #[.pointer (some ⟨b, 0, none⟩), .int .i64 8] W fun e w' => e = .returned (.int .u64 (G : Nat)) ∧ Rd w' b S3 x3 ∧ On b W w')
    (f4 : ∀ W b, Rd W b S3 x3 → Calls Tryz.prog 214 #[.pointer (some ⟨b, 0, none⟩), .int .i64 2] W fun e w' => e = .returned (.int .u64 (C : Nat)) ∧ Rd w' b S4 x4 ∧ On b W w')
    (f5 : ∀ W b, Rd W b S4 x4 → Calls Tryz.prog 172 #[.pointer (some ⟨b, 0, none⟩), .int .i64 (C : Nat)] W fun e w' => e = .returned (.string D) ∧ Rd w' b S5 x5 ∧ On b W w')
    (f7 : ∀ W, Calls Tryz.prog 90 #[.agg #[.int .i64 (K : Nat), .int .i64 (N : Nat), .int .u64 (G : Nat), .string D]] W fun e w' => e = .returned (.string P) ∧ Kept W w')
    (hx : (x5 != 0) = false) (hs : (S.toList == P.toList) = true) (w : World) :
    Calls Tryz.prog 176 #[.string S] w fun e w' => e = .returned (.tuple #[.agg #[.int .i64 (K : Nat), .int .i64 (N : Nat), .int .u64 (G : Nat), .string D], .int .i64 0]) ∧ Kept w w' := by
  have F1 : Hid _ := f1
  have F2 : Hid _ := f2
  have F3 : Hid _ := f3
  have F4 : Hid _ := f4
  have F5 : Hid _ := f5
  have F7 : Hid _ := f7
  clear f1 f2 f3 f4 f5 f7
  go_enter Tryz.func176, Tryz.ntmps176
  go_wp2_with (first
    | (go_at_call 168; refine (new_walk S _).mono ?_; rintro e w1 ⟨rfl, r0, k0⟩; have r0 : Rd w1 (w.heap.size + 1) S 0 := (by simpa using r0); have Z1 := k0.pg (Pg.alloc w 0 0 0 ⟨#[]⟩ 157); have k0 : Kept w w1 := ((Kept.refl w).alloc _).trans k0)
    | (go_at_call 214; with_reducible refine (F1.out _ _ r0).mono ?_; rintro e v1 ⟨rfl, r1, o1⟩)
    | (go_at_call 214; with_reducible refine (F2.out _ _ r1).mono ?_; rintro e v2 ⟨rfl, r2, o2⟩)
    | (go_at_call 214; with_reducible refine (F3.out _ _ r2).mono ?_; rintro e v3 ⟨rfl, r3, o3⟩; have o13 := (o1.trans o2).trans o3; have Z3 := o13.pg Z1 (by omega); have b3 := r3.lt; have z3 := Z3.lt; have r3a := ((Kept.refl v3).alloc (.cells #[.int .i64 (K : Nat), .int .i64 (N : Nat), .int .u64 (G : Nat), .string ⟨#[]⟩] 157)).rd r3; have P3 := Pg.alloc v3 K N G ⟨#[]⟩ 157; have Z3a := ((Kept.refl v3).alloc (.cells #[.int .i64 (K : Nat), .int .i64 (N : Nat), .int .u64 (G : Nat), .string ⟨#[]⟩] 157)).pg Z3)
    | (go_at_call 214; with_reducible refine (F4.out _ _ r3a).mono ?_; rintro e v4 ⟨rfl, r4, o4⟩)
    | (go_at_call 172; with_reducible refine (F5.out _ _ r4).mono ?_; rintro e v5 ⟨rfl, r5, o5⟩; have o45 := o4.trans o5; have P5 := o45.pg P3 (by omega); have Z5 := o45.pg Z3a (by omega); have z5 := P5.lt; have P6 := P5.set3 D; have Z6 : Pg (v5.setCell ⟨v3.heap.size, 3, none⟩ (.string D)) w.heap.size 0 0 0 ⟨#[]⟩ 157 := ⟨(heap_setCell_other v5 ⟨v3.heap.size, 3, none⟩ w.heap.size _ (by show w.heap.size ≠ v3.heap.size; omega)).trans Z5.out⟩; have r6 := r5.far ⟨v3.heap.size, 3, none⟩ (.string D) (by show w.heap.size + 1 ≠ v3.heap.size; omega); have cf := P5.fz 3; have c5 := P5.cs.2.2.2; obtain ⟨d0, d1, d2, d3⟩ := P6.cs)
    | (go_at_call 174; with_reducible refine (err_walk r6).mono ?_; rintro e v6 ⟨rfl, hv⟩; rw [hv]; clear hv)
    | (go_at_call 90; with_reducible refine (F7.out _).mono ?_; rintro e v7 ⟨rfl, q7⟩; have Z7 := q7.pg Z6; have P7 := q7.pg P6; obtain ⟨a0, a1, a2, a3⟩ := P7.cs; obtain ⟨⟨g0, h0⟩, ⟨g1, h1⟩, ⟨g2, h2⟩, g3, h3⟩ := Z7.ready K N G))
  refine bodyPost_ret (v := .tuple #[.agg #[.int .i64 (K : Nat), .int .i64 (N : Nat), .int .u64 (G : Nat), .string D], .int .i64 0]) ?_ rfl ⟨rfl, ?_⟩
  · exact results_two (p := 2) (u := 3) (ty := 157) rfl _ _ w.heap.size 157 #[.int .i64 (K : Nat), .int .i64 (N : Nat), .int .u64 (G : Nat), .string D] (0, 0) _ rfl (Z7.fill _ _ _ _).out Tryz.underlying157 rfl size157
  have hk : Kept w (v5.setCell ⟨v3.heap.size, 3, none⟩ (.string D)) := by
    refine Kept.set ?_ (by show w.heap.size ≤ v3.heap.size; omega) _
    exact o45.kept ((o13.kept k0 (by omega)).alloc _) (by omega)
  exact ((((hk.trans q7).set (Nat.le_refl _) _).set (Nat.le_refl _) _).set (Nat.le_refl _) _).set (Nat.le_refl _) _

theorem pow_fits {m : List Nat} (h : Small m) {k : Nat} (hk : m.length ≤ k) : lowV m < 256 ^ k :=
  Nat.lt_of_lt_of_le (lowV_lt h) (Nat.pow_le_pow_right (by omega) hk)

theorem get_yes (s : List Nat) (hs : Small s) (ho : Okk s) (w : World) :
    Calls Tryz.prog 176 #[.string (bs s)] w fun e w' => e = .returned (.tuple #[.agg #[.int .i64 (fK s : Nat), .int .i64 (fN s : Nat), .int .u64 (fG s : Nat), .string (bs (fD s))], .int .i64 0]) ∧ Kept w w' := by
  rcases e1 : takeS (kOf 1) s 0 with ⟨m1, l1, x1⟩
  rcases e2 : takeS (kOf 4) l1 x1 with ⟨m2, l2, x2⟩
  rcases e3 : takeS (kOf 8) l2 x2 with ⟨m3, l3, x3⟩
  rcases e4 : takeS (kOf 2) l3 x3 with ⟨m4, l4, x4⟩
  rcases e5 : takeS (lowV m4) l4 x4 with ⟨m5, l5, x5⟩
  obtain ⟨s1, t1, n1, _, _⟩ := takeS_small hs e1
  obtain ⟨s2, t2, n2, _, _⟩ := takeS_small t1 e2
  obtain ⟨s3, t3, n3, _, _⟩ := takeS_small t2 e3
  obtain ⟨s4, t4, n4, _, _⟩ := takeS_small t3 e4
  obtain ⟨s5, t5, n5, _, _⟩ := takeS_small t4 e5
  have f1 := takeS_fine (.inl rfl) e1
  have f2 := takeS_fine f1 e2
  have f3 := takeS_fine f2 e3
  have f4 := takeS_fine f3 e4
  have hG : lowV m3 < 18446744073709551616 := pow_fits s3 n3
  have hx : x5 = 0 := by
    apply Classical.byContradiction
    intro hx
    exact get_none e1 e2 e3 e4 e5 hx ho.1
  obtain ⟨_, a1, a2, a3, a5⟩ := get_all e1 e2 e3 e4 e5 hx
  have hq := bs_eq hs (putL_small (lowV m1 : Int) (lowV m2 : Int) (lowV m3) s5)
  have hsd : s = putL (lowV m1 : Int) (lowV m2 : Int) (lowV m3) m5 := by rw [a1, a2, a3, a5]; exact ho.2
  rw [decide_eq_true hsd] at hq
  have := get_C (bs s) (bs l1) (bs l2) (bs l3) (bs l4) (bs l5) (bs m5) _ (lowV m1) (lowV m2) (lowV m3) (lowV m4) x1 x2 x3 x4 x5 (pow_fits s1 n1) (pow_fits s2 n2) (pow_fits s4 n4)
    (fun W b r => rfixed_any 1 s hs 0 (.inl rfl) e1 r) (fun W b r => rfixed_any 4 l1 t1 x1 f1 e2 r) (fun W b r => rfixed_any 8 l2 t2 x2 f2 e3 r) (fun W b r => rfixed_any 2 l3 t3 x3 f3 e4 r)
    (fun W b r => take_any _ l4 x4 f4 e5 r) (fun W => put_walk _ _ _ hG m5 W) (by rw [hx]; rfl) hq w
  rw [a1, a2, a3, a5] at this
  exact this

theorem get_no (s : List Nat) (hs : Small s) (ho : ¬ Okk s) (w : World) :
    Calls Tryz.prog 176 #[.string (bs s)] w fun e w' => e = .returned (.tuple #[.agg #[.int .i64 0, .int .i64 0, .int .u64 0, .string ⟨#[]⟩], .int .i64 3]) ∧ Kept w w' := by
  rcases e1 : takeS (kOf 1) s 0 with ⟨m1, l1, x1⟩
  rcases e2 : takeS (kOf 4) l1 x1 with ⟨m2, l2, x2⟩
  rcases e3 : takeS (kOf 8) l2 x2 with ⟨m3, l3, x3⟩
  rcases e4 : takeS (kOf 2) l3 x3 with ⟨m4, l4, x4⟩
  rcases e5 : takeS (lowV m4) l4 x4 with ⟨m5, l5, x5⟩
  obtain ⟨s1, t1, n1, _, _⟩ := takeS_small hs e1
  obtain ⟨s2, t2, n2, _, _⟩ := takeS_small t1 e2
  obtain ⟨s3, t3, n3, _, _⟩ := takeS_small t2 e3
  obtain ⟨s4, t4, n4, _, _⟩ := takeS_small t3 e4
  obtain ⟨s5, t5, n5, _, _⟩ := takeS_small t4 e5
  have f1 := takeS_fine (.inl rfl) e1
  have f2 := takeS_fine f1 e2
  have f3 := takeS_fine f2 e3
  have f4 := takeS_fine f3 e4
  have hG : lowV m3 < 18446744073709551616 := pow_fits s3 n3
  by_cases hx : x5 = 0
  · obtain ⟨h15, a1, a2, a3, a5⟩ := get_all e1 e2 e3 e4 e5 hx
    have hq := bs_eq hs (putL_small (lowV m1 : Int) (lowV m2 : Int) (lowV m3) s5)
    have hsd : ¬ s = putL (lowV m1 : Int) (lowV m2 : Int) (lowV m3) m5 := by rw [a1, a2, a3, a5]; exact fun h => ho ⟨h15, h⟩
    rw [decide_eq_false hsd] at hq
    exact get_B (bs s) (bs l1) (bs l2) (bs l3) (bs l4) (bs l5) (bs m5) _ (lowV m1) (lowV m2) (lowV m3) (lowV m4) x1 x2 x3 x4 x5 (pow_fits s1 n1) (pow_fits s2 n2) (pow_fits s4 n4)
      (fun W b r => rfixed_any 1 s hs 0 (.inl rfl) e1 r) (fun W b r => rfixed_any 4 l1 t1 x1 f1 e2 r) (fun W b r => rfixed_any 8 l2 t2 x2 f2 e3 r) (fun W b r => rfixed_any 2 l3 t3 x3 f3 e4 r)
      (fun W b r => take_any _ l4 x4 f4 e5 r) (fun W => put_walk _ _ _ hG m5 W) (by rw [hx]; rfl) hq w
  · have hx' : (x5 != 0) = true := by simp [hx]
    exact get_A (bs s) (bs l1) (bs l2) (bs l3) (bs l4) (bs l5) (bs m5) _ (lowV m1) (lowV m2) (lowV m3) (lowV m4) x1 x2 x3 x4 x5 (pow_fits s1 n1) (pow_fits s2 n2) (pow_fits s4 n4)
      (fun W b r => rfixed_any 1 s hs 0 (.inl rfl) e1 r) (fun W b r => rfixed_any 4 l1 t1 x1 f1 e2 r) (fun W b r => rfixed_any 8 l2 t2 x2 f2 e3 r) (fun W b r => rfixed_any 2 l3 t3 x3 f3 e4 r)
      (fun W b r => take_any _ l4 x4 f4 e5 r) (fun W => put_walk _ _ _ hG m5 W) hx' w
attribute [local go_sem ↓] Go.wp_at_zero Go.wp_at_succ

structure Sp (w : World) (b : Nat) (g r : Int) : Prop where
  out : w.heap[b]? = some (.cells #[.int .u64 g, .int .i64 r] 88)

theorem Kept.sp {w w' : World} (h : Kept w w') {b : Nat} {g r : Int} (k : Sp w b g r) : Sp w' b g r := ⟨h.block k.out⟩
theorem Sp.alloc (w : World) (g r : Int) : Sp (w.alloc (.cells #[.int .u64 g, .int .i64 r] 88)) w.heap.size g r :=
  ⟨by show (w.heap.push _)[w.heap.size]? = _; simp⟩
theorem Sp.cs {w : World} {b : Nat} {g r : Int} (k : Sp w b g r) : w.cell? ⟨b, 0, none⟩ = some (.int .u64 g) ∧ w.cell? ⟨b, 1, none⟩ = some (.int .i64 r) := by
  refine ⟨?_, ?_⟩
  all_goals rw [cell_of_row w b _ _ _ _ k.out]
  all_goals rfl
theorem Sp.fz {w : World} {b : Nat} {g r : Int} (k : Sp w b g r) (j : Nat) : w.frozen? ⟨b, j, none⟩ = false := frozen_of_row w b j _ _ k.out
theorem Sp.lt {w : World} {b : Nat} {g r : Int} (k : Sp w b g r) : b < w.heap.size := (Array.getElem?_eq_some_iff.1 k.out).1
theorem Sp.set0 {w : World} {b : Nat} {g r : Int} (k : Sp w b g r) (d : Int) : Sp (w.setCell ⟨b, 0, none⟩ (.int .u64 d)) b d r :=
  ⟨by rw [heap_setCell_same w b 0 _ _ _ k.out]; rfl⟩
theorem Sp.set1 {w : World} {b : Nat} {g r : Int} (k : Sp w b g r) (d : Int) : Sp (w.setCell ⟨b, 1, none⟩ (.int .i64 d)) b g d :=
  ⟨by rw [heap_setCell_same w b 1 _ _ _ k.out]; rfl⟩
theorem Sp.ready {w : World} {b : Nat} {g r : Int} (k : Sp w b g r) (x : Int) :
    (w.cell? ⟨b, 0, none⟩ = some (.int .u64 g) ∧ w.frozen? ⟨b, 0, none⟩ = false) ∧
    (w.setCell ⟨b, 0, none⟩ (.int .u64 x)).cell? ⟨b, 1, none⟩ = some (.int .i64 r) ∧ (w.setCell ⟨b, 0, none⟩ (.int .u64 x)).frozen? ⟨b, 1, none⟩ = false :=
  have k1 := k.set0 x
  ⟨⟨k.cs.1, k.fz 0⟩, k1.cs.2, k1.fz 1⟩
theorem Sp.fill {w : World} {b : Nat} {g r : Int} (k : Sp w b g r) (x y : Int) :
    Sp ((w.setCell ⟨b, 0, none⟩ (.int .u64 x)).setCell ⟨b, 1, none⟩ (.int .i64 y)) b x y := (k.set0 x).set1 y
theorem On.sp {c : Nat} {w w' : World} (h : On c w w') {b : Nat} {g r : Int} (k : Sp w b g r) (hb : b ≠ c) : Sp w' b g r :=
  ⟨(h.rest b k.lt hb).trans k.out⟩
theorem Sp.far {w : World} {b : Nat} {g r : Int} (k : Sp w b g r) (a : Addr) (v : Value) (h : b ≠ a.block) : Sp (w.setCell a v) b g r :=
  ⟨(heap_setCell_other w a b v h).trans k.out⟩

theorem size88 : (Tryz.prog.info? 88).map (·.size) = some 2 := by kernel_rfl

set_option maxRecDepth 100000 in
theorem smay_yes (g : Nat) (r : Int) (h : Sup g r) (w : World) :
    Calls Tryz.prog 55 #[.agg #[.int .u64 (g : Nat), .int .i64 r]] w fun e w' => e = .returned (.bool true) ∧ Kept w w' := by
  have HK : Hid (∀ o, Kept w (w.alloc o)) := fun o => (Kept.refl w).alloc o
  obtain ⟨h1, h2, h3, h4⟩ := h
  have h1' : (1 : Int) ≤ (g : Int) := by omega
  have h2' : (g : Int) < 4611686018427387904 := by omega
  clear h1 h2
  go_enter Tryz.func55, Tryz.ntmps55
  go_wp2
  go_ret
  exact ⟨rfl, HK.out _⟩

set_option maxRecDepth 100000 in
theorem smay_no (g : Nat) (r : Int) (h : ¬ Sup g r) (w : World) :
    Calls Tryz.prog 55 #[.agg #[.int .u64 (g : Nat), .int .i64 r]] w fun e w' => e = .returned (.bool false) ∧ Kept w w' := by
  have HK : Hid (∀ o, Kept w (w.alloc o)) := fun o => (Kept.refl w).alloc o
  by_cases h1 : (1 : Int) ≤ (g : Int)
  · by_cases h2 : (g : Int) < 4611686018427387904
    · by_cases h3 : -1 ≤ r
      · have h4 : ¬ r < 16384 := fun h4 => h ⟨by omega, by omega, h3, h4⟩
        clear h
        go_enter Tryz.func55, Tryz.ntmps55
        go_wp2
        go_ret
        exact ⟨rfl, HK.out _⟩
      · clear h
        go_enter Tryz.func55, Tryz.ntmps55
        go_wp2
        go_ret
        exact ⟨rfl, HK.out _⟩
    · clear h
      go_enter Tryz.func55, Tryz.ntmps55
      go_wp2
      go_ret
      exact ⟨rfl, HK.out _⟩
  · clear h
    go_enter Tryz.func55, Tryz.ntmps55
    go_wp2
    go_ret
    exact ⟨rfl, HK.out _⟩

theorem where_walk (g : Nat) (w : World) : Calls Tryz.prog 81 #[.int .u64 (g : Nat)] w fun e w' => e = .returned (.int .i64 ((g % 2 : Nat) : Int)) ∧ w' = w := by
  go_enter Tryz.func81, Tryz.ntmps81
  go_wp2
  go_ret
  exact ⟨rfl, rfl⟩

theorem where_kept (g : Nat) (w : World) : Calls Tryz.prog 81 #[.int .u64 (g : Nat)] w fun e w' => e = .returned (.int .i64 ((g % 2 : Nat) : Int)) ∧ Kept w w' :=
  (where_walk g w).mono (by rintro e w' ⟨rfl, rfl⟩; exact ⟨rfl, Kept.refl _⟩)

set_option maxRecDepth 100000 in
theorem sput_no (g : Nat) (r : Int) (h : ¬ Sup g r) (w : World) :
    Calls Tryz.prog 82 #[.agg #[.int .u64 (g : Nat), .int .i64 r]] w fun e w' => e = .returned (.string ⟨#[]⟩) ∧ Kept w w' := by
  have h11 := smay_no g r h
  clear h
  go_enter Tryz.func82, Tryz.ntmps82
  go_wp2_with (go_at_call 55; refine (h11 _).mono ?_; rintro e w1 ⟨rfl, k1⟩)
  go_ret
  exact ⟨rfl, ((Kept.refl w).alloc _).trans k1⟩

set_option maxRecDepth 100000 in
set_option maxHeartbeats 4000000 in
theorem sput_yes (g : Nat) (r : Int) (h : Sup g r) (w : World) :
    Calls Tryz.prog 82 #[.agg #[.int .u64 (g : Nat), .int .i64 r]] w fun e w' => e = .returned (.string (bs (supP g r))) ∧ Kept w w' := by
  have h11 := smay_yes g r h
  have h7 := where_kept g
  have h15 := put_walk 1 ((g % 2 : Nat) : Int) g (by have := h.2.1; omega) (numL (r + 1).toNat)
  rw [supP_put h] at h15
  have h16 := num_walk (r + 1).toNat (by have := h.2.2.2; omega)
  have hr1 := h.2.2.1
  have hr2 := h.2.2.2
  have e1 : (((r + 1).toNat : Nat) : Int) = r + 1 := by omega
  rw [e1] at h16
  have u1 : IntKind.u64.wrap (r + 1) = r + 1 := by rw [IntKind.wrap_u64]; omega
  have u2 : IntKind.i64.wrap (r + 1) = r + 1 := by rw [IntKind.wrap_i64]; omega
  generalize bs (numL (r + 1).toNat) = D at *
  generalize bs (supP g r) = R at *
  generalize ((g % 2 : Nat) : Int) = at_ at *
  clear e1 h
  go_enter Tryz.func82, Tryz.ntmps82
  go_wp2_with (go_at_call 55; refine (h11 _).mono ?_; rintro e w1 ⟨rfl, k1⟩; have P0 := (k1.drew).sp (Sp.alloc w g r); obtain ⟨c0, c1⟩ := P0.cs)
  go_region_held3 (fun W => W.cell? ⟨w.heap.size, 0, none⟩ = some (.int .u64 (g : Nat)) ∧ W.cell? ⟨w.heap.size, 1, none⟩ = some (.int .i64 r)) (go_keep) (first
    | (go_at_call 81; with_reducible refine (h7 _).mono ?_; rintro e v1 ⟨rfl, q1⟩; have P1 := q1.sp P0; obtain ⟨c10, c11⟩ := P1.cs)
    | (go_at_call 111; with_reducible refine (h16 _).mono ?_; rintro e v2 ⟨rfl, q2⟩; have P2 := q2.sp P1; obtain ⟨c20, c21⟩ := P2.cs)
    | (go_at_call 90; with_reducible refine (h15 _).mono ?_; rintro e v3 ⟨rfl, q3⟩; have P3 := q3.sp P2; obtain ⟨c30, c31⟩ := P3.cs))
  all_goals go_wp2
  all_goals go_ret
  all_goals exact ⟨rfl, (((((Kept.refl w).alloc _).trans k1).drew.trans q1).trans q2).trans q3⟩

attribute [local go_sem ↓] Go.wp_at_zero Go.wp_at_succ

def supL (g : Nat) (r : Int) : List Nat := if 1 ≤ g ∧ g < 4611686018427387904 ∧ -1 ≤ r ∧ r < 16384 then supP g r else []

theorem supL_yes {g : Nat} {r : Int} (h : Sup g r) : supL g r = supP g r := by unfold supL; exact if_pos h
theorem supL_no {g : Nat} {r : Int} (h : ¬ Sup g r) : supL g r = [] := by unfold supL; exact if_neg h
theorem supL_small (g : Nat) (r : Int) : Small (supL g r) := by
  unfold supL; split
  · exact supP_small _ _
  · intro x hx; cases hx

theorem sput_walk (g : Nat) (r : Int) (w : World) :
    Calls Tryz.prog 82 #[.agg #[.int .u64 (g : Nat), .int .i64 r]] w fun e w' => e = .returned (.string (bs (supL g r))) ∧ Kept w w' := by
  by_cases h : Sup g r
  · rw [supL_yes h]; exact sput_yes g r h w
  · rw [supL_no h]; exact sput_no g r h w
structure SGet (s : List Nat) (a : Int) (e : Ending) : Prop where
  yes : ∀ g r, Sup g r → s = supP g r → a = ((g % 2 : Nat) : Int) → e = .returned (.tuple #[.agg #[.int .u64 (g : Nat), .int .i64 r], .bool true])
  no : (∀ g r, Sup g r → s = supP g r → a ≠ ((g % 2 : Nat) : Int)) → e = .returned (.tuple #[.agg #[.int .u64 0, .int .i64 0], .bool false])

theorem SGet.none {s : List Nat} {a : Int} (h : ∀ g r, Sup g r → s = supP g r → a ≠ ((g % 2 : Nat) : Int)) : SGet s a (.returned (.tuple #[.agg #[.int .u64 0, .int .i64 0], .bool false])) :=
  ⟨fun g r h1 h2 h3 => absurd h3 (h g r h1 h2), fun _ => rfl⟩

theorem SGet.some {s : List Nat} {a : Int} {g : Nat} {r : Int} (h1 : Sup g r) (h2 : s = supP g r) (h3 : a = ((g % 2 : Nat) : Int)) : SGet s a (.returned (.tuple #[.agg #[.int .u64 (g : Nat), .int .i64 r], .bool true])) := by
  refine ⟨fun k t h4 h5 _ => ?_, fun h => absurd h3 (h g r h1 h2)⟩
  obtain ⟨rfl, rfl⟩ := supP_inj h1 h4 (h2.symm.trans h5)
  rfl

set_option maxRecDepth 100000 in
set_option maxHeartbeats 1000000 in
theorem sget_A (S : ByteArray) (a : Int)
    (f17 : ∀ W, Calls Tryz.prog 176 #[.string S] W fun e w' => e = .returned (.tuple #[.agg #[.int .i64 0, .int .i64 0, .int .u64 0, .string ⟨#[]⟩], .int .i64 3]) ∧ Kept W w') (w : World) :
    Calls Tryz.prog 139 #[.string S, .int .i64 a] w fun e w' => e = .returned (.tuple #[.agg #[.int .u64 0, .int .i64 0], .bool false]) ∧ Kept w w' := by
  go_enter Tryz.func139, Tryz.ntmps139
  go_wp2_with (go_at_call 176; (with_reducible refine (f17 _).mono ?_); rintro e v1 ⟨rfl, q1⟩; have Z1 := ((Kept.refl v1).alloc (.cells #[.int .i64 0, .int .i64 0, .int .u64 0, .string ⟨#[]⟩] 157)).sp (q1.sp (Sp.alloc w 0 0)); obtain ⟨⟨g0, h0⟩, g1, h1⟩ := Z1.ready 0)
  refine bodyPost_ret (v := .tuple #[.agg #[.int .u64 0, .int .i64 0], .bool false]) ?_ rfl ⟨rfl, ?_⟩
  · exact results_two (p := 4) (u := 5) (ty := 88) rfl _ _ w.heap.size 88 _ (0, 0) _ rfl (Z1.fill 0 0).out Tryz.underlying88 rfl size88
  · exact ((((((Kept.refl w).alloc _).trans q1).alloc _).set (Nat.le_refl _) _).set (Nat.le_refl _) _)

structure Own (l : List Nat) (x : Nat) : Prop where
  out : ∀ m, m ≤ 16384 → l = numL m → x = m

set_option maxRecDepth 100000 in
set_option maxHeartbeats 2000000 in
theorem sget_B (l : List Nat) (S D : ByteArray) (a t : Int) (K N G : Nat) (hne : ¬ a = t)
    (f17 : ∀ W, Calls Tryz.prog 176 #[.string S] W fun e w' => e = .returned (.tuple #[.agg #[.int .i64 (K : Nat), .int .i64 (N : Nat), .int .u64 (G : Nat), .string D], .int .i64 0]) ∧ Kept W w')
    (f19 : ∀ W b, Rd W b D 0 → Calls Tryz.prog 171 #[.pointer (some ⟨b, 0, none⟩), .int .u64 16384] W fun e w' => On b W w' ∧ ∃ x : Nat, e = .returned (.int .u64 (x : Nat)) ∧ x ≤ 16384 ∧ Own l x)
    (f7 : ∀ W, Calls Tryz.prog 81 #[.int .u64 (G : Nat)] W fun e w' => e = .returned (.int .i64 t) ∧ w' = W) (w : World) :
    Calls Tryz.prog 139 #[.string S, .int .i64 a] w fun e w' => e = .returned (.tuple #[.agg #[.int .u64 0, .int .i64 0], .bool false]) ∧ Kept w w' := by
  have t1 : (a == t) = false := by simp; exact hne
  have t2 : (a != t) = true := by simp; exact hne
  have F19 : Hid _ := f19
  clear f19 hne
  go_enter Tryz.func139, Tryz.ntmps139
  go_wp2_with (first
    | (go_at_call 176; (with_reducible refine (f17 _).mono ?_); rintro e v1 ⟨rfl, q1⟩; have Z1 := ((Kept.refl v1).alloc (.cells #[.int .i64 (K : Nat), .int .i64 (N : Nat), .int .u64 (G : Nat), .string D] 157)).sp (q1.sp (Sp.alloc w 0 0)); have P1 := Pg.alloc v1 K N G D 157; have w1 : w.heap.size < v1.heap.size := (by have := q1.size; simp at this; omega))
    | (go_at_call 168; refine (new_walk D _).mono ?_; rintro e v2 ⟨rfl, r2, q2⟩; have r2 : Rd v2 (v1.heap.size + 1) D 0 := (by simpa using r2); have P2 := q2.pg P1; have Z2 := q2.sp Z1)
    | (go_at_call 171; (with_reducible refine (F19.out _ _ r2).mono ?_); rintro e v3 ⟨o3, x, rfl, hx, ow⟩; have P3 := o3.pg P2 (by omega); obtain ⟨p30, p31, p32, p33⟩ := P3.cs; have kk : Kept w v3 := (o3.kept (((((Kept.refl w).alloc _).trans q1).alloc _).trans q2) (by omega)); have Z3 := ((Kept.refl v3).alloc (.cells #[.int .u64 (G : Nat), .int .i64 ((x : Int) - 1)] 88)).sp (o3.sp Z2 (by omega)); obtain ⟨⟨g0, h0⟩, g1, h1⟩ := Z3.ready 0)
    | (go_at_call 81; (with_reducible refine (f7 _).mono ?_); rintro e v4 ⟨rfl, hv⟩; rw [hv]; clear hv))
  refine bodyPost_ret (v := .tuple #[.agg #[.int .u64 0, .int .i64 0], .bool false]) ?_ rfl ⟨rfl, ?_⟩
  · exact results_two (p := 4) (u := 5) (ty := 88) rfl _ _ w.heap.size 88 _ (0, 0) _ rfl (Z3.fill 0 0).out Tryz.underlying88 rfl size88
  · exact ((kk.alloc _).set (Nat.le_refl _) _).set (Nat.le_refl _) _

set_option maxRecDepth 100000 in
set_option maxHeartbeats 2000000 in
theorem sget_C (s l : List Nat) (S D : ByteArray) (t : Int) (K N G : Nat) (P : Nat → ByteArray) (Q : Nat → Bool)
    (f17 : ∀ W, Calls Tryz.prog 176 #[.string S] W fun e w' => e = .returned (.tuple #[.agg #[.int .i64 (K : Nat), .int .i64 (N : Nat), .int .u64 (G : Nat), .string D], .int .i64 0]) ∧ Kept W w')
    (f19 : ∀ W b, Rd W b D 0 → Calls Tryz.prog 171 #[.pointer (some ⟨b, 0, none⟩), .int .u64 16384] W fun e w' => On b W w' ∧ ∃ x : Nat, e = .returned (.int .u64 (x : Nat)) ∧ x ≤ 16384 ∧ Own l x)
    (f7 : ∀ W, Calls Tryz.prog 81 #[.int .u64 (G : Nat)] W fun e w' => e = .returned (.int .i64 t) ∧ w' = W)
    (f6 : ∀ (x : Nat) W, Calls Tryz.prog 82 #[.agg #[.int .u64 (G : Nat), .int .i64 ((x : Int) - 1)]] W fun e w' => e = .returned (.string (P x)) ∧ Kept W w')
    (hc : ∀ x, (S.toList == (P x).toList) = Q x)
    (hy : ∀ x, x ≤ 16384 → Own l x → Q x = true → SGet s t (.returned (.tuple #[.agg #[.int .u64 (G : Nat), .int .i64 ((x : Int) - 1)], .bool true])))
    (hn : ∀ x, x ≤ 16384 → Own l x → Q x = false → SGet s t (.returned (.tuple #[.agg #[.int .u64 0, .int .i64 0], .bool false]))) (w : World) :
    Calls Tryz.prog 139 #[.string S, .int .i64 t] w fun e w' => SGet s t e ∧ Kept w w' := by
  have F19 : Hid _ := f19
  have F6 : Hid _ := f6
  have HC : Hid _ := hc
  have HY : Hid _ := hy
  have HN : Hid _ := hn
  clear f19 f6 hc hy hn
  go_enter Tryz.func139, Tryz.ntmps139
  go_wp2_with (first
    | (go_at_call 176; (with_reducible refine (f17 _).mono ?_); rintro e v1 ⟨rfl, q1⟩; have Z1 := ((Kept.refl v1).alloc (.cells #[.int .i64 (K : Nat), .int .i64 (N : Nat), .int .u64 (G : Nat), .string D] 157)).sp (q1.sp (Sp.alloc w 0 0)); have P1 := Pg.alloc v1 K N G D 157; have w1 : w.heap.size < v1.heap.size := (by have := q1.size; simp at this; omega))
    | (go_at_call 168; refine (new_walk D _).mono ?_; rintro e v2 ⟨rfl, r2, q2⟩; have r2 : Rd v2 (v1.heap.size + 1) D 0 := (by simpa using r2); have P2 := q2.pg P1; have Z2 := q2.sp Z1)
    | (go_at_call 171; (with_reducible refine (F19.out _ _ r2).mono ?_); rintro e v3 ⟨o3, x, rfl, hx, ow⟩; have P3 := o3.pg P2 (by omega); obtain ⟨p30, p31, p32, p33⟩ := P3.cs; have kk : Kept w v3 := (o3.kept (((((Kept.refl w).alloc _).trans q1).alloc _).trans q2) (by omega)); have Z3 := ((Kept.refl v3).alloc (.cells #[.int .u64 (G : Nat), .int .i64 ((x : Int) - 1)] 88)).sp (o3.sp Z2 (by omega)); have Y3 := Sp.alloc v3 G ((x : Int) - 1); have hcx := HC.out x; have F6x := F6.out x; have HYx : Hid (Q x = true → SGet s t (.returned (.tuple #[.agg #[.int .u64 (G : Nat), .int .i64 ((x : Int) - 1)], .bool true]))) := HY.out x hx ow; have HNx : Hid (Q x = false → SGet s t (.returned (.tuple #[.agg #[.int .u64 0, .int .i64 0], .bool false]))) := HN.out x hx ow; clear F6 HC HY HN ow; generalize P x = PX at *; generalize Q x = QX at *)
    | (go_at_call 81; (with_reducible refine (f7 _).mono ?_); rintro e v4 ⟨rfl, hv⟩; rw [hv]; clear hv)
    | (go_at_call 82; (with_reducible refine (F6x _).mono ?_); rintro e v5 ⟨rfl, q5⟩; have Z5 := q5.sp Z3; have Y5 := q5.sp Y3; obtain ⟨y50, y51⟩ := Y5.cs; obtain ⟨⟨g0, h0⟩, g1, h1⟩ := Z5.ready 0; obtain ⟨_, g1', h1'⟩ := Z5.ready (G : Nat); cases QX))
  · refine bodyPost_ret (v := .tuple #[.agg #[.int .u64 0, .int .i64 0], .bool false]) ?_ rfl ⟨HNx.out trivial, ?_⟩
    · exact results_two (p := 4) (u := 5) (ty := 88) rfl _ _ w.heap.size 88 _ (0, 0) _ rfl (Z5.fill 0 0).out Tryz.underlying88 rfl size88
    · exact (((kk.alloc _).trans q5).set (Nat.le_refl _) _).set (Nat.le_refl _) _
  · refine bodyPost_ret (v := .tuple #[.agg #[.int .u64 (G : Nat), .int .i64 ((x : Int) - 1)], .bool true]) ?_ rfl ⟨HYx.out trivial, ?_⟩
    · exact results_two (p := 4) (u := 5) (ty := 88) rfl _ _ w.heap.size 88 _ (0, 0) _ rfl (Z5.fill G ((x : Int) - 1)).out Tryz.underlying88 rfl size88
    · exact (((kk.alloc _).trans q5).set (Nat.le_refl _) _).set (Nat.le_refl _) _

theorem okk_data {s : List Nat} (ho : Okk s) : (fD s).length ≤ 237 := by
  obtain ⟨_, h, _⟩ := (okk_iff s).1 ho
  unfold fD
  rw [List.length_take]
  omega

theorem sget_walk (s : List Nat) (hs : Small s) (a : Int) (w : World) :
    Calls Tryz.prog 139 #[.string (bs s), .int .i64 a] w fun e w' => SGet s a e ∧ Kept w w' := by
  by_cases ho : Okk s
  · have hl : Small (fD s) := (hs.drop 15).take _
    have ht : (fD s).length ≤ 100000 := by have := okk_data ho; omega
    have f19 : ∀ W b, Rd W b (bs (fD s)) 0 → Calls Tryz.prog 171 #[.pointer (some ⟨b, 0, none⟩), .int .u64 16384] W fun e w' => On b W w' ∧ ∃ x : Nat, e = .returned (.int .u64 (x : Nat)) ∧ x ≤ 16384 ∧ Own (fD s) x :=
      fun W b r => (rnum_any (fD s) hl ht r).mono (by rintro e w' ⟨o, x, rfl, hx, hm⟩; exact ⟨o, x, rfl, hx, ⟨hm⟩⟩)
    by_cases ha : a = ((fG s % 2 : Nat) : Int)
    · subst ha
      refine sget_C s (fD s) (bs s) (bs (fD s)) _ (fK s) (fN s) (fG s) (fun x => bs (supL (fG s) ((x : Int) - 1))) (fun x => decide (s = supL (fG s) ((x : Int) - 1))) (get_yes s hs ho) f19 (where_walk (fG s)) (fun x W => sput_walk _ _ W) (fun x => bs_eq hs (supL_small _ _)) ?_ ?_ w
      · intro x hx ow hq
        have hq := of_decide_eq_true hq
        by_cases hS : Sup (fG s) ((x : Int) - 1)
        · rw [supL_yes hS] at hq
          exact SGet.some hS hq rfl
        · rw [supL_no hS] at hq
          rw [hq] at ho
          exact absurd ho empty_not
      · intro x hx ow hq
        have hq := of_decide_eq_false hq
        refine SGet.none fun g r h1 h2 => absurd ?_ hq
        obtain ⟨_, _, hG, hD⟩ := supP_okk h1
        rw [← h2] at hG hD
        have h3 := h1.2.2.1
        have h4 := h1.2.2.2
        have := ow.out (r + 1).toNat (by omega) hD
        rw [hG, show (x : Int) - 1 = r by omega, supL_yes h1]
        exact h2
    · refine (sget_B (fD s) (bs s) (bs (fD s)) a _ (fK s) (fN s) (fG s) ha (get_yes s hs ho) f19 (where_walk (fG s)) w).mono ?_
      rintro e w' ⟨rfl, hk⟩
      refine ⟨SGet.none fun g r h1 h2 => ?_, hk⟩
      obtain ⟨_, _, hG, _⟩ := supP_okk h1
      rw [← h2] at hG
      rw [← hG]
      exact ha
  · refine (sget_A (bs s) a (get_no s hs ho) w).mono ?_
    rintro e w' ⟨rfl, hk⟩
    refine ⟨SGet.none fun g r h1 h2 => ?_, hk⟩
    rw [h2] at ho
    exact absurd (supP_okk h1).1 ho

theorem sget_yes {g : Nat} {r : Int} (h : Sup g r) {a : Int} (ha : a = ((g % 2 : Nat) : Int)) (w : World) :
    Calls Tryz.prog 139 #[.string (bs (supP g r)), .int .i64 a] w fun e w' => e = .returned (.tuple #[.agg #[.int .u64 (g : Nat), .int .i64 r], .bool true]) ∧ Kept w w' :=
  (sget_walk _ (supP_small g r) a w).mono (fun _ _ ⟨h1, hk⟩ => ⟨h1.yes g r h rfl ha, hk⟩)
attribute [local go_sem ↓] Go.wp_at_zero Go.wp_at_succ

set_option maxRecDepth 100000 in
set_option maxHeartbeats 1000000 in
theorem choose_odd (A B : ByteArray) (g1 g2 : Nat) (r1 r2 : Int) (b1 : Bool) (hg : g1 < g2)
    (f1 : ∀ W, Calls Tryz.prog 139 #[.string A, .int .i64 0] W fun e w' => e = .returned (.tuple #[.agg #[.int .u64 (g1 : Nat), .int .i64 r1], .bool b1]) ∧ Kept W w')
    (f2 : ∀ W, Calls Tryz.prog 139 #[.string B, .int .i64 1] W fun e w' => e = .returned (.tuple #[.agg #[.int .u64 (g2 : Nat), .int .i64 r2], .bool true]) ∧ Kept W w') (w : World) :
    Calls Tryz.prog 101 #[.string A, .string B] w fun e w' => e = .returned (.tuple #[.agg #[.int .u64 (g2 : Nat), .int .i64 r2], .bool true]) ∧ Kept w w' := by
  have hg' : (g1 : Int) < (g2 : Int) := by omega
  go_enter Tryz.func101, Tryz.ntmps101
  go_wp2_with (first
    | (go_at_call 139; (with_reducible refine (f1 _).mono ?_); rintro e v1 ⟨rfl, q1⟩; have Z1 := ((Kept.refl v1).alloc (.cells #[.int .u64 (g1 : Nat), .int .i64 r1] 88)).sp (q1.sp (Sp.alloc w 0 0)); have Y1 := Sp.alloc v1 g1 r1)
    | (go_at_call 139; (with_reducible refine (f2 _).mono ?_); rintro e v2 ⟨rfl, q2⟩; have k2 : Kept v2 (v2.alloc (.cells #[.int .u64 (g2 : Nat), .int .i64 r2] 88)) := (Kept.refl v2).alloc _; have Z2 := k2.sp (q2.sp Z1); have Y2 := k2.sp (q2.sp Y1); obtain ⟨y0, y1⟩ := Y2.cs; obtain ⟨⟨z0, h0⟩, z1, h1⟩ := Z2.ready (g2 : Nat)))
  refine bodyPost_ret (v := .tuple #[.agg #[.int .u64 (g2 : Nat), .int .i64 r2], .bool true]) ?_ rfl ⟨rfl, ?_⟩
  · exact results_two (p := 4) (u := 5) (ty := 88) rfl _ _ w.heap.size 88 _ (0, 0) _ rfl (Z2.fill g2 r2).out Tryz.underlying88 rfl size88
  · exact ((((((((Kept.refl w).alloc _).trans q1).alloc _).trans q2).alloc _).set (Nat.le_refl _) _).set (Nat.le_refl _) _)

set_option maxRecDepth 100000 in
set_option maxHeartbeats 1000000 in
theorem choose_none (A B : ByteArray) (g1 g2 : Nat) (r1 r2 : Int) (b1 : Bool)
    (f1 : ∀ W, Calls Tryz.prog 139 #[.string A, .int .i64 0] W fun e w' => e = .returned (.tuple #[.agg #[.int .u64 (g1 : Nat), .int .i64 r1], .bool b1]) ∧ Kept W w')
    (f2 : ∀ W, Calls Tryz.prog 139 #[.string B, .int .i64 1] W fun e w' => e = .returned (.tuple #[.agg #[.int .u64 (g2 : Nat), .int .i64 r2], .bool false]) ∧ Kept W w') (w : World) :
    Calls Tryz.prog 101 #[.string A, .string B] w fun e w' => e = .returned (.tuple #[.agg #[.int .u64 (g1 : Nat), .int .i64 r1], .bool b1]) ∧ Kept w w' := by
  go_enter Tryz.func101, Tryz.ntmps101
  go_wp2_with (first
    | (go_at_call 139; (with_reducible refine (f1 _).mono ?_); rintro e v1 ⟨rfl, q1⟩; have Z1 := ((Kept.refl v1).alloc (.cells #[.int .u64 (g1 : Nat), .int .i64 r1] 88)).sp (q1.sp (Sp.alloc w 0 0)); have Y1 := Sp.alloc v1 g1 r1)
    | (go_at_call 139; (with_reducible refine (f2 _).mono ?_); rintro e v2 ⟨rfl, q2⟩; have k2 : Kept v2 (v2.alloc (.cells #[.int .u64 (g2 : Nat), .int .i64 r2] 88)) := (Kept.refl v2).alloc _; have Z2 := k2.sp (q2.sp Z1); have Y2 := k2.sp (q2.sp Y1); obtain ⟨y0, y1⟩ := Y2.cs; obtain ⟨⟨z0, h0⟩, z1, h1⟩ := Z2.ready (g1 : Nat)))
  refine bodyPost_ret (v := .tuple #[.agg #[.int .u64 (g1 : Nat), .int .i64 r1], .bool b1]) ?_ rfl ⟨rfl, ?_⟩
  · exact results_two (p := 4) (u := 5) (ty := 88) rfl _ _ w.heap.size 88 _ (0, 0) _ rfl (Z2.fill g1 r1).out Tryz.underlying88 rfl size88
  · exact ((((((((Kept.refl w).alloc _).trans q1).alloc _).trans q2).alloc _).set (Nat.le_refl _) _).set (Nat.le_refl _) _)

set_option maxRecDepth 100000 in
set_option maxHeartbeats 1000000 in
theorem choose_even (A B : ByteArray) (g1 g2 : Nat) (r1 r2 : Int) (b1 : Bool) (hg : ¬ g1 < g2)
    (f1 : ∀ W, Calls Tryz.prog 139 #[.string A, .int .i64 0] W fun e w' => e = .returned (.tuple #[.agg #[.int .u64 (g1 : Nat), .int .i64 r1], .bool b1]) ∧ Kept W w')
    (f2 : ∀ W, Calls Tryz.prog 139 #[.string B, .int .i64 1] W fun e w' => e = .returned (.tuple #[.agg #[.int .u64 (g2 : Nat), .int .i64 r2], .bool true]) ∧ Kept W w') (w : World) :
    Calls Tryz.prog 101 #[.string A, .string B] w fun e w' => e = .returned (.tuple #[.agg #[.int .u64 (g1 : Nat), .int .i64 r1], .bool b1]) ∧ Kept w w' := by
  have hg' : ¬ (g1 : Int) < (g2 : Int) := by omega
  go_enter Tryz.func101, Tryz.ntmps101
  go_wp2_with (first
    | (go_at_call 139; (with_reducible refine (f1 _).mono ?_); rintro e v1 ⟨rfl, q1⟩; have Z1 := ((Kept.refl v1).alloc (.cells #[.int .u64 (g1 : Nat), .int .i64 r1] 88)).sp (q1.sp (Sp.alloc w 0 0)); have Y1 := Sp.alloc v1 g1 r1)
    | (go_at_call 139; (with_reducible refine (f2 _).mono ?_); rintro e v2 ⟨rfl, q2⟩; have k2 : Kept v2 (v2.alloc (.cells #[.int .u64 (g2 : Nat), .int .i64 r2] 88)) := (Kept.refl v2).alloc _; have Z2 := k2.sp (q2.sp Z1); have Y2 := k2.sp (q2.sp Y1); obtain ⟨y0, y1⟩ := Y2.cs; obtain ⟨⟨z0, h0⟩, z1, h1⟩ := Z2.ready (g1 : Nat)))
  refine bodyPost_ret (v := .tuple #[.agg #[.int .u64 (g1 : Nat), .int .i64 r1], .bool b1]) ?_ rfl ⟨rfl, ?_⟩
  · exact results_two (p := 4) (u := 5) (ty := 88) rfl _ _ w.heap.size 88 _ (0, 0) _ rfl (Z2.fill g1 r1).out Tryz.underlying88 rfl size88
  · exact ((((((((Kept.refl w).alloc _).trans q1).alloc _).trans q2).alloc _).set (Nat.le_refl _) _).set (Nat.le_refl _) _)

end Go.Proofs.YtifeihnhkbagpaaGreatDoor.P