/- The walk of super.Get: the state that a sector says, at its place. Conditions: numbers are within their kinds; bytes are below 256. -/
import Derived.Test.YthlhnjjofefgcaaGreatDoorPWalkP
import Derived.Test.YthlhnjjofefgcaaGreatDoorPWalkN
namespace Go.Proofs.YthlhnjjofefgcaaGreatDoor.P
open Go.ChangeShapes Go.WideShapes Go.ChangeAt Go.RowKit
attribute [local go_sem ↓] Go.wp_at_zero Go.wp_at_succ

/-- A state's sector; nothing of one that may not be. -/
def supL (g : Nat) (r : Int) : List Nat := if 1 ≤ g ∧ g < 4611686018427387904 ∧ -1 ≤ r ∧ r < 16384 then supP g r else []

theorem supL_yes {g : Nat} {r : Int} (h : Sup g r) : supL g r = supP g r := by unfold supL; exact if_pos h
theorem supL_no {g : Nat} {r : Int} (h : ¬ Sup g r) : supL g r = [] := by unfold supL; exact if_neg h
theorem supL_small (g : Nat) (r : Int) : Small (supL g r) := by
  unfold supL; split
  · exact supP_small _ _
  · intro x hx; cases hx

theorem sput_walk (g : Nat) (r : Int) (w : World) :
    Calls Tryz.prog 66 #[.agg #[.int .u64 (g : Nat), .int .i64 r]] w fun e w' => e = .returned (.string (bs (supL g r))) ∧ Kept w w' := by
  by_cases h : Sup g r
  · rw [supL_yes h]; exact sput_yes g r h w
  · rw [supL_no h]; exact sput_no g r h w
/-- What Get answers. -/
structure SGet (s : List Nat) (a : Int) (e : Ending) : Prop where
  yes : ∀ g r, Sup g r → s = supP g r → a = ((g % 2 : Nat) : Int) → e = .returned (.tuple #[.agg #[.int .u64 (g : Nat), .int .i64 r], .bool true])
  no : (∀ g r, Sup g r → s = supP g r → a ≠ ((g % 2 : Nat) : Int)) → e = .returned (.tuple #[.agg #[.int .u64 0, .int .i64 0], .bool false])

theorem SGet.none {s : List Nat} {a : Int} (h : ∀ g r, Sup g r → s = supP g r → a ≠ ((g % 2 : Nat) : Int)) : SGet s a (.returned (.tuple #[.agg #[.int .u64 0, .int .i64 0], .bool false])) :=
  ⟨fun g r h1 h2 h3 => absurd h3 (h g r h1 h2), fun _ => rfl⟩

theorem SGet.some {s : List Nat} {a : Int} {g : Nat} {r : Int} (h1 : Sup g r) (h2 : s = supP g r) (h3 : a = ((g % 2 : Nat) : Int)) : SGet s a (.returned (.tuple #[.agg #[.int .u64 (g : Nat), .int .i64 r], .bool true])) := by
  refine ⟨fun k t h4 h5 _ => ?_, fun h => absurd h3 (h g r h1 h2)⟩
  obtain ⟨rfl, rfl⟩ := supP_inj h1 h4 (h2.symm.trans h5)
  rfl

set_option maxRecDepth 100000 in
set_option maxHeartbeats 1000000 in
theorem sget_A (S : ByteArray) (a : Int)
    (f17 : ∀ W, Calls Tryz.prog 56 #[.string S] W fun e w' => e = .returned (.tuple #[.agg #[.int .i64 0, .int .i64 0, .int .u64 0, .string ⟨#[]⟩], .int .i64 3]) ∧ Kept W w') (w : World) :
    Calls Tryz.prog 75 #[.string S, .int .i64 a] w fun e w' => e = .returned (.tuple #[.agg #[.int .u64 0, .int .i64 0], .bool false]) ∧ Kept w w' := by
  go_enter Tryz.func75, Tryz.ntmps75
  go_wp2_with (go_at_call 56; (with_reducible refine (f17 _).mono ?_); rintro e v1 ⟨rfl, q1⟩; have Z1 := ((Kept.refl v1).alloc (.cells #[.int .i64 0, .int .i64 0, .int .u64 0, .string ⟨#[]⟩] 55)).sp (q1.sp (Sp.alloc w 0 0)); obtain ⟨⟨g0, h0⟩, g1, h1⟩ := Z1.ready 0)
  refine bodyPost_ret (v := .tuple #[.agg #[.int .u64 0, .int .i64 0], .bool false]) ?_ rfl ⟨rfl, ?_⟩
  · exact results_two (p := 4) (u := 5) (ty := 52) rfl _ _ w.heap.size 52 _ (0, 0) _ rfl (Z1.fill 0 0).out Tryz.underlying52 rfl size52
  · exact ((((((Kept.refl w).alloc _).trans q1).alloc _).set (Nat.le_refl _) _).set (Nat.le_refl _) _)

/-- Over the bytes of a number up to 16384 it is that. -/
structure Own (l : List Nat) (x : Nat) : Prop where
  out : ∀ m, m ≤ 16384 → l = numL m → x = m

set_option maxRecDepth 100000 in
set_option maxHeartbeats 2000000 in
theorem sget_B (l : List Nat) (S D : ByteArray) (a t : Int) (K N G : Nat) (hne : ¬ a = t)
    (f17 : ∀ W, Calls Tryz.prog 56 #[.string S] W fun e w' => e = .returned (.tuple #[.agg #[.int .i64 (K : Nat), .int .i64 (N : Nat), .int .u64 (G : Nat), .string D], .int .i64 0]) ∧ Kept W w')
    (f19 : ∀ W b, Rd W b D 0 → Calls Tryz.prog 95 #[.pointer (some ⟨b, 0, none⟩), .int .u64 16384] W fun e w' => On b W w' ∧ ∃ x : Nat, e = .returned (.int .u64 (x : Nat)) ∧ x ≤ 16384 ∧ Own l x)
    (f7 : ∀ W, Calls Tryz.prog 65 #[.int .u64 (G : Nat)] W fun e w' => e = .returned (.int .i64 t) ∧ w' = W) (w : World) :
    Calls Tryz.prog 75 #[.string S, .int .i64 a] w fun e w' => e = .returned (.tuple #[.agg #[.int .u64 0, .int .i64 0], .bool false]) ∧ Kept w w' := by
  have t1 : (a == t) = false := by simp; exact hne
  have t2 : (a != t) = true := by simp; exact hne
  have F19 : Hid _ := f19
  clear f19 hne
  go_enter Tryz.func75, Tryz.ntmps75
  go_wp2_with (first
    | (go_at_call 56; (with_reducible refine (f17 _).mono ?_); rintro e v1 ⟨rfl, q1⟩; have Z1 := ((Kept.refl v1).alloc (.cells #[.int .i64 (K : Nat), .int .i64 (N : Nat), .int .u64 (G : Nat), .string D] 55)).sp (q1.sp (Sp.alloc w 0 0)); have P1 := Pg.alloc v1 K N G D 55; have w1 : w.heap.size < v1.heap.size := (by have := q1.size; simp at this; omega))
    | (go_at_call 76; refine (new_walk D _).mono ?_; rintro e v2 ⟨rfl, r2, q2⟩; have r2 : Rd v2 (v1.heap.size + 1) D 0 := (by simpa using r2); have P2 := q2.pg P1; have Z2 := q2.sp Z1)
    | (go_at_call 95; (with_reducible refine (F19.out _ _ r2).mono ?_); rintro e v3 ⟨o3, x, rfl, hx, ow⟩; have P3 := o3.pg P2 (by omega); obtain ⟨p30, p31, p32, p33⟩ := P3.cs; have kk : Kept w v3 := (o3.kept (((((Kept.refl w).alloc _).trans q1).alloc _).trans q2) (by omega)); have Z3 := ((Kept.refl v3).alloc (.cells #[.int .u64 (G : Nat), .int .i64 ((x : Int) - 1)] 52)).sp (o3.sp Z2 (by omega)); obtain ⟨⟨g0, h0⟩, g1, h1⟩ := Z3.ready 0)
    | (go_at_call 65; (with_reducible refine (f7 _).mono ?_); rintro e v4 ⟨rfl, hv⟩; rw [hv]; clear hv))
  refine bodyPost_ret (v := .tuple #[.agg #[.int .u64 0, .int .i64 0], .bool false]) ?_ rfl ⟨rfl, ?_⟩
  · exact results_two (p := 4) (u := 5) (ty := 52) rfl _ _ w.heap.size 52 _ (0, 0) _ rfl (Z3.fill 0 0).out Tryz.underlying52 rfl size52
  · exact ((kk.alloc _).set (Nat.le_refl _) _).set (Nat.le_refl _) _

set_option maxRecDepth 100000 in
set_option maxHeartbeats 2000000 in
theorem sget_C (s l : List Nat) (S D : ByteArray) (t : Int) (K N G : Nat) (P : Nat → ByteArray) (Q : Nat → Bool)
    (f17 : ∀ W, Calls Tryz.prog 56 #[.string S] W fun e w' => e = .returned (.tuple #[.agg #[.int .i64 (K : Nat), .int .i64 (N : Nat), .int .u64 (G : Nat), .string D], .int .i64 0]) ∧ Kept W w')
    (f19 : ∀ W b, Rd W b D 0 → Calls Tryz.prog 95 #[.pointer (some ⟨b, 0, none⟩), .int .u64 16384] W fun e w' => On b W w' ∧ ∃ x : Nat, e = .returned (.int .u64 (x : Nat)) ∧ x ≤ 16384 ∧ Own l x)
    (f7 : ∀ W, Calls Tryz.prog 65 #[.int .u64 (G : Nat)] W fun e w' => e = .returned (.int .i64 t) ∧ w' = W)
    (f6 : ∀ (x : Nat) W, Calls Tryz.prog 66 #[.agg #[.int .u64 (G : Nat), .int .i64 ((x : Int) - 1)]] W fun e w' => e = .returned (.string (P x)) ∧ Kept W w')
    (hc : ∀ x, (S.toList == (P x).toList) = Q x)
    (hy : ∀ x, x ≤ 16384 → Own l x → Q x = true → SGet s t (.returned (.tuple #[.agg #[.int .u64 (G : Nat), .int .i64 ((x : Int) - 1)], .bool true])))
    (hn : ∀ x, x ≤ 16384 → Own l x → Q x = false → SGet s t (.returned (.tuple #[.agg #[.int .u64 0, .int .i64 0], .bool false]))) (w : World) :
    Calls Tryz.prog 75 #[.string S, .int .i64 t] w fun e w' => SGet s t e ∧ Kept w w' := by
  have F19 : Hid _ := f19
  have F6 : Hid _ := f6
  have HC : Hid _ := hc
  have HY : Hid _ := hy
  have HN : Hid _ := hn
  clear f19 f6 hc hy hn
  go_enter Tryz.func75, Tryz.ntmps75
  go_wp2_with (first
    | (go_at_call 56; (with_reducible refine (f17 _).mono ?_); rintro e v1 ⟨rfl, q1⟩; have Z1 := ((Kept.refl v1).alloc (.cells #[.int .i64 (K : Nat), .int .i64 (N : Nat), .int .u64 (G : Nat), .string D] 55)).sp (q1.sp (Sp.alloc w 0 0)); have P1 := Pg.alloc v1 K N G D 55; have w1 : w.heap.size < v1.heap.size := (by have := q1.size; simp at this; omega))
    | (go_at_call 76; refine (new_walk D _).mono ?_; rintro e v2 ⟨rfl, r2, q2⟩; have r2 : Rd v2 (v1.heap.size + 1) D 0 := (by simpa using r2); have P2 := q2.pg P1; have Z2 := q2.sp Z1)
    | (go_at_call 95; (with_reducible refine (F19.out _ _ r2).mono ?_); rintro e v3 ⟨o3, x, rfl, hx, ow⟩; have P3 := o3.pg P2 (by omega); obtain ⟨p30, p31, p32, p33⟩ := P3.cs; have kk : Kept w v3 := (o3.kept (((((Kept.refl w).alloc _).trans q1).alloc _).trans q2) (by omega)); have Z3 := ((Kept.refl v3).alloc (.cells #[.int .u64 (G : Nat), .int .i64 ((x : Int) - 1)] 52)).sp (o3.sp Z2 (by omega)); have Y3 := Sp.alloc v3 G ((x : Int) - 1); have hcx := HC.out x; have F6x := F6.out x; have HYx : Hid (Q x = true → SGet s t (.returned (.tuple #[.agg #[.int .u64 (G : Nat), .int .i64 ((x : Int) - 1)], .bool true]))) := HY.out x hx ow; have HNx : Hid (Q x = false → SGet s t (.returned (.tuple #[.agg #[.int .u64 0, .int .i64 0], .bool false]))) := HN.out x hx ow; clear F6 HC HY HN ow; generalize P x = PX at *; generalize Q x = QX at *)
    | (go_at_call 65; (with_reducible refine (f7 _).mono ?_); rintro e v4 ⟨rfl, hv⟩; rw [hv]; clear hv)
    | (go_at_call 66; (with_reducible refine (F6x _).mono ?_); rintro e v5 ⟨rfl, q5⟩; have Z5 := q5.sp Z3; have Y5 := q5.sp Y3; obtain ⟨y50, y51⟩ := Y5.cs; obtain ⟨⟨g0, h0⟩, g1, h1⟩ := Z5.ready 0; obtain ⟨_, g1', h1'⟩ := Z5.ready (G : Nat); cases QX))
  · refine bodyPost_ret (v := .tuple #[.agg #[.int .u64 0, .int .i64 0], .bool false]) ?_ rfl ⟨HNx.out trivial, ?_⟩
    · exact results_two (p := 4) (u := 5) (ty := 52) rfl _ _ w.heap.size 52 _ (0, 0) _ rfl (Z5.fill 0 0).out Tryz.underlying52 rfl size52
    · exact (((kk.alloc _).trans q5).set (Nat.le_refl _) _).set (Nat.le_refl _) _
  · refine bodyPost_ret (v := .tuple #[.agg #[.int .u64 (G : Nat), .int .i64 ((x : Int) - 1)], .bool true]) ?_ rfl ⟨HYx.out trivial, ?_⟩
    · exact results_two (p := 4) (u := 5) (ty := 52) rfl _ _ w.heap.size 52 _ (0, 0) _ rfl (Z5.fill G ((x : Int) - 1)).out Tryz.underlying52 rfl size52
    · exact (((kk.alloc _).trans q5).set (Nat.le_refl _) _).set (Nat.le_refl _) _

theorem okk_data {s : List Nat} (ho : Okk s) : (fD s).length ≤ 237 := by
  obtain ⟨_, h, _⟩ := (okk_iff s).1 ho
  unfold fD
  rw [List.length_take]
  omega

theorem sget_walk (s : List Nat) (hs : Small s) (a : Int) (w : World) :
    Calls Tryz.prog 75 #[.string (bs s), .int .i64 a] w fun e w' => SGet s a e ∧ Kept w w' := by
  by_cases ho : Okk s
  · have hl : Small (fD s) := (hs.drop 15).take _
    have ht : (fD s).length ≤ 100000 := by have := okk_data ho; omega
    have f19 : ∀ W b, Rd W b (bs (fD s)) 0 → Calls Tryz.prog 95 #[.pointer (some ⟨b, 0, none⟩), .int .u64 16384] W fun e w' => On b W w' ∧ ∃ x : Nat, e = .returned (.int .u64 (x : Nat)) ∧ x ≤ 16384 ∧ Own (fD s) x :=
      fun W b r => (rnum_any (fD s) hl ht r).mono (by rintro e w' ⟨o, x, rfl, hx, hm⟩; exact ⟨o, x, rfl, hx, ⟨hm⟩⟩)
    by_cases ha : a = ((fG s % 2 : Nat) : Int)
    · subst ha
      refine sget_C s (fD s) (bs s) (bs (fD s)) _ (fK s) (fN s) (fG s) (fun x => bs (supL (fG s) ((x : Int) - 1))) (fun x => decide (s = supL (fG s) ((x : Int) - 1))) (get_yes s hs ho) f19 (where_walk (fG s)) (fun x W => sput_walk _ _ W) (fun x => bs_eq hs (supL_small _ _)) ?_ ?_ w
      · intro x hx ow hq
        have hq := of_decide_eq_true hq
        by_cases hS : Sup (fG s) ((x : Int) - 1)
        · rw [supL_yes hS] at hq
          exact SGet.some hS hq rfl
        · rw [supL_no hS] at hq
          rw [hq] at ho
          exact absurd ho empty_not
      · intro x hx ow hq
        have hq := of_decide_eq_false hq
        refine SGet.none fun g r h1 h2 => absurd ?_ hq
        obtain ⟨_, _, hG, hD⟩ := supP_okk h1
        rw [← h2] at hG hD
        have h3 := h1.2.2.1
        have h4 := h1.2.2.2
        have := ow.out (r + 1).toNat (by omega) hD
        rw [hG, show (x : Int) - 1 = r by omega, supL_yes h1]
        exact h2
    · refine (sget_B (fD s) (bs s) (bs (fD s)) a _ (fK s) (fN s) (fG s) ha (get_yes s hs ho) f19 (where_walk (fG s)) w).mono ?_
      rintro e w' ⟨rfl, hk⟩
      refine ⟨SGet.none fun g r h1 h2 => ?_, hk⟩
      obtain ⟨_, _, hG, _⟩ := supP_okk h1
      rw [← h2] at hG
      rw [← hG]
      exact ha
  · refine (sget_A (bs s) a (get_no s hs ho) w).mono ?_
    rintro e w' ⟨rfl, hk⟩
    refine ⟨SGet.none fun g r h1 h2 => ?_, hk⟩
    rw [h2] at ho
    exact absurd (supP_okk h1).1 ho

/-- What Get answers of a state's sector, at its place. -/
theorem sget_yes {g : Nat} {r : Int} (h : Sup g r) {a : Int} (ha : a = ((g % 2 : Nat) : Int)) (w : World) :
    Calls Tryz.prog 75 #[.string (bs (supP g r)), .int .i64 a] w fun e w' => e = .returned (.tuple #[.agg #[.int .u64 (g : Nat), .int .i64 r], .bool true]) ∧ Kept w w' :=
  (sget_walk _ (supP_small g r) a w).mono (fun _ _ ⟨h1, hk⟩ => ⟨h1.yes g r h rfl ha, hk⟩)
/-- And elsewhere. -/
theorem sget_other {g : Nat} {r : Int} (h : Sup g r) {a : Int} (ha : a ≠ ((g % 2 : Nat) : Int)) (w : World) :
    Calls Tryz.prog 75 #[.string (bs (supP g r)), .int .i64 a] w fun e w' => e = .returned (.tuple #[.agg #[.int .u64 0, .int .i64 0], .bool false]) ∧ Kept w w' :=
  (sget_walk _ (supP_small g r) a w).mono (fun _ _ ⟨h1, hk⟩ => ⟨h1.no (fun k t h2 h3 => by obtain ⟨rfl, rfl⟩ := supP_inj h h2 h3; exact ha), hk⟩)
/-- And of nothing. -/
theorem sget_empty (a : Int) (w : World) :
    Calls Tryz.prog 75 #[.string ⟨#[]⟩, .int .i64 a] w fun e w' => e = .returned (.tuple #[.agg #[.int .u64 0, .int .i64 0], .bool false]) ∧ Kept w w' :=
  (sget_walk [] (fun x hx => by cases hx) a w).mono (fun _ _ ⟨h1, hk⟩ => ⟨h1.no (fun k t h2 h3 => by
    have := supP_length h2
    rw [← h3] at this; cases this), hk⟩)
end Go.Proofs.YthlhnjjofefgcaaGreatDoor.P
