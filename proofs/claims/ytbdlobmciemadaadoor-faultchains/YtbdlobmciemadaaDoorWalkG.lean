/- The walks of the methods Is and Unwrap of a fault, of errors.Is over a chain of faults at a target that has a number alone, and of fault.Has. Conditions: errors.errorType holds what the program's text lays; the chain is of 65536 faults at most; the target is a block of its own. -/
import Derived.Test.YtbdlobmciemadaaDoorWalkF
import Derived.BigQuiet
namespace Go.Proofs.YtbdlobmciemadaaDoor
open Go.RowKit Go.Extern.Stop Go.Stop Go.Extern

/-- A target: a fault that has a number and nothing else. -/
structure Tgt (w : World) (b : Nat) (c : Int) : Prop where
  ex : w.heap[b]? = some (.cells #[.string ⟨#[]⟩, .int .i64 c, .nilIface] 50)

theorem Tgt.kept {w w' : World} {b : Nat} {c : Int} (h : Tgt w b c) (k : Kept w w') : Tgt w' b c := ⟨k.block h.ex⟩
theorem In.kept {w w' : World} {y : Nd} (h : In w y) (k : Kept w w') : In w' y := by
  obtain ⟨u, h⟩ := h.ex
  exact ⟨u, k.block h⟩

theorem Kept.drewN (w : World) (n : Nat) : Kept w (w.drewN n) := ⟨⟨rfl, rfl, rfl, Nat.le_refl _, fun _ _ => rfl⟩⟩

theorem is_none (w : World) :
    Calls Tryd.prog 18 #[.pointer none, .nilIface] w fun e w' => e = .returned (.bool false) ∧ Kept w w' := by
  go_enter Tryd.func18, Tryd.ntmps18
  go_wp2_with (go_at_call 21; refine (own_nil _).mono ?_; rintro e w' ⟨rfl, rfl⟩)
  go_quiet (fail)
  go_wp2
  go_ret
  exact ⟨rfl, Kept.drewN _ _⟩

theorem is_same (x : Nd) (t : Nat) (c : Int) (w : World) (hx : In w x) (ht : Tgt w t c) (hc : c = x.c) :
    Calls Tryd.prog 18 #[.pointer (some ⟨x.b, 0, none⟩), .iface 39 (.pointer (some ⟨t, 0, none⟩))] w fun e w' => e = .returned (.bool true) ∧ Kept w w' := by
  subst hc
  have c0 := (hx.str (Below.refl _ _)).2
  have c1 : w.cell? ⟨t, 0, none⟩ = some (.string ⟨#[]⟩) := by rw [cell_of_row w t 0 _ _ _ ht.ex]; rfl
  have c2 : w.cell? ⟨t, 1, none⟩ = some (.int .i64 x.c) := by rw [cell_of_row w t 1 _ _ _ ht.ex]; rfl
  have c3 : w.cell? ⟨t, 2, none⟩ = some .nilIface := by rw [cell_of_row w t 2 _ _ _ ht.ex]; rfl
  go_enter Tryd.func18, Tryd.ntmps18
  go_wp2_with (go_at_call 21; refine (own_is _ _).mono ?_; rintro e w' ⟨rfl, rfl⟩)
  go_quiet (fail)
  go_wp2
  go_ret
  exact ⟨rfl, Kept.drewN _ _⟩

theorem is_other (x : Nd) (t : Nat) (c : Int) (w : World) (hx : In w x) (ht : Tgt w t c) (hc : (c == x.c) = false) :
    Calls Tryd.prog 18 #[.pointer (some ⟨x.b, 0, none⟩), .iface 39 (.pointer (some ⟨t, 0, none⟩))] w fun e w' => e = .returned (.bool false) ∧ Kept w w' := by
  have c0 := (hx.str (Below.refl _ _)).2
  have c1 : w.cell? ⟨t, 0, none⟩ = some (.string ⟨#[]⟩) := by rw [cell_of_row w t 0 _ _ _ ht.ex]; rfl
  have c2 : w.cell? ⟨t, 1, none⟩ = some (.int .i64 c) := by rw [cell_of_row w t 1 _ _ _ ht.ex]; rfl
  have c3 : w.cell? ⟨t, 2, none⟩ = some .nilIface := by rw [cell_of_row w t 2 _ _ _ ht.ex]; rfl
  go_enter Tryd.func18, Tryd.ntmps18
  go_wp2_with (go_at_call 21; refine (own_is _ _).mono ?_; rintro e w' ⟨rfl, rfl⟩)
  go_quiet (fail)
  go_wp2
  go_ret
  exact ⟨rfl, Kept.drewN _ _⟩

theorem unwrap_none (w : World) :
    Calls Tryd.prog 17 #[.pointer none] w fun e w' => e = .returned .nilIface ∧ w' = w := by
  go_enter Tryd.func17, Tryd.ntmps17
  go_wp2
  go_ret
  exact ⟨rfl, rfl⟩

theorem unwrap_walk (x : Nd) (u : Value) (w : World) (hx : w.heap[x.b]? = some (.cells #[.string x.s, .int .i64 x.c, u] 50)) :
    Calls Tryd.prog 17 #[.pointer (some ⟨x.b, 0, none⟩)] w fun e w' => e = .returned u ∧ w' = w := by
  have c0 := field_of hx
  clear hx
  go_enter Tryd.func17, Tryd.ntmps17
  go_wp2
  go_ret
  exact ⟨rfl, rfl⟩

theorem typeOf39' (v : Value) (w : World) : (ReflectliteType.typeOf #[.iface 39 v]).run Tryd.prog w = .ok (.iface 83 (.agg #[.pointer (some ⟨4, 39, none⟩)])) w := by kernel_rfl
theorem findComparable (v : Value) (w : World) : (Go.method 240 83 v "Comparable").run Tryd.prog w = .ok (76, v) w := by kernel_rfl
theorem findIs (v : Value) (w : World) : (Go.method 240 39 v "Is").run Tryd.prog w = .ok (18, v) w := by kernel_rfl
theorem findUnwrap (v : Value) (w : World) : (Go.method 240 39 v "Unwrap").run Tryd.prog w = .ok (17, v) w := by kernel_rfl
theorem isCmp : (Tryd.prog.info? 39).map (·.comparable) = some true := by kernel_rfl
theorem isSize : (Tryd.prog.info? 50).map (·.size) = some 3 := by kernel_rfl
theorem hasIs (v : Value) (xT : TypeId) (w : World) : (Instr.typeAssert (.iface 39 v) xT 85 true).run Tryd.prog w = .ok (.tuple #[.iface 39 v, .bool true]) w := run_typeAssert_hasB Tryd.underlying85 (by kernel_rfl) v xT w
theorem hasUnwrap (v : Value) (xT : TypeId) (w : World) : (Instr.typeAssert (.iface 39 v) xT 87 true).run Tryd.prog w = .ok (.tuple #[.iface 39 v, .bool true]) w := run_typeAssert_hasB Tryd.underlying87 (by kernel_rfl) v xT w

/-- Whether one of a number is among faults. -/
def has (l : List Nd) (c : Int) : Bool := l.any fun x => c == x.c

set_option maxRecDepth 100000 in
set_option maxHeartbeats 1000000 in
theorem is_loop (x0 : Nd) (r0 : List Nd) (v0 : Value) (t : Nat) (c : Int) (w : World) (hch : Ch w (x0 :: r0) v0) (ht : Tgt w t c) (hne : ∀ y ∈ x0 :: r0, y.b ≠ t) :
    Calls Tryd.prog 32 #[v0, .iface 39 (.pointer (some ⟨t, 0, none⟩)), .bool true] w fun e w' => e = .returned (.bool (has (x0 :: r0) c)) ∧ Kept w w' := by
  obtain ⟨i, hi, hcmp⟩ := Option.map_eq_some_iff.1 isCmp
  obtain ⟨j, hj, hjs⟩ := Option.map_eq_some_iff.1 isSize
  have f1 := findIs
  have f2 := findUnwrap
  have f3 := hasIs
  have f4 := hasUnwrap
  go_enter Tryd.func32, Tryd.ntmps32
  go_wp2
  go_loopg [0] (x0 :: r0).length (fun g err wx => ∃ x r, (x :: r).length = g ∧ Ch w (x :: r) err ∧ (∀ y ∈ x :: r, y.b ≠ t) ∧ has (x0 :: r0) c = has (x :: r) c ∧ Kept w wx)
  case atStart => exact ⟨x0, r0, rfl, hch, hne, rfl, Kept.refl _⟩
  case round =>
    clear hch hne
    obtain ⟨x, r, hlen, hc, hne, hhas, hk⟩ := hrel
    have hin : In wr x := (Ch.in _ _ hc x (List.mem_cons_self)).kept hk
    obtain ⟨rfl, u, hx, hcr⟩ := hc
    have htr := ht.kept hk
    have hxr := hk.block hx
    have hd : (⟨x.b, 0, none⟩ : Addr) ≠ ⟨t, 0, none⟩ := fun e => hne x (List.mem_cons_self) (congrArg Addr.block e)
    have heq := run_eql_iface_ptr_other (P := Tryd.prog) wr Tryd.underlying24 Tryd.underlying39 hi hcmp hj (by rw [hjs]; decide) hd hxr htr.ex
    have HX : Hid (w.heap[x.b]? = some (.cells #[.string x.s, .int .i64 x.c, u] 50)) := hx
    have HN : Hid (∀ y ∈ x :: r, y.b ≠ t) := hne
    have HH : Hid (has (x0 :: r0) c = has (x :: r) c) := hhas
    have HL : Hid ((x :: r).length = gk) := hlen
    clear hx hne hhas hxr hlen
    by_cases e : c = x.c
    · have h1 := is_same x t c wr hin htr e
      have e1 : has (x0 :: r0) c = true := by rw [HH.out]; simp [has, e]
      have H1 : Hid (has (x0 :: r0) c = true) := e1
      clear hi hcmp hj hjs e1 e
      go_wp2_with (go_at_call 18; refine h1.mono ?_; rintro e w' ⟨rfl, hkw⟩)
      go_ret
      exact ⟨by rw [H1.out]; rfl, hk.trans hkw⟩
    · have h1 := is_other x t c wr hin htr (beq_eq_false_iff_ne.2 e)
      have e1 : has (x0 :: r0) c = has r c := by rw [HH.out]; simp [has, e]
      have H1 : Hid (has (x0 :: r0) c = has r c) := e1
      clear hi hcmp hj hjs e1
      cases r with
      | nil =>
        obtain rfl : u = .nilIface := hcr
        go_wp2_with (first
          | (go_at_call 18; refine h1.mono ?_; rintro e w' ⟨rfl, hkw⟩)
          | (go_at_call 17; refine (unwrap_walk x _ _ ((hk.trans (by assumption)).block HX.out)).mono ?_; rintro e w'' ⟨rfl, rfl⟩))
        go_ret
        exact ⟨by rw [H1.out]; rfl, hk.trans hkw⟩
      | cons y rs =>
        have hu : u = .iface 39 (.pointer (some ⟨y.b, 0, none⟩)) := hcr.1
        subst hu
        go_wp2_with (first
          | (go_at_call 18; refine h1.mono ?_; rintro e w' ⟨rfl, hkw⟩)
          | (go_at_call 17; refine (unwrap_walk x _ _ ((hk.trans (by assumption)).block HX.out)).mono ?_; rintro e w'' ⟨rfl, rfl⟩))
        obtain ⟨n, rfl⟩ : ∃ n, gk = n + 1 := ⟨gk - 1, by have := HL.out; simp at this; omega⟩
        go_roundg n
        case measure => omega
        case rel => exact ⟨y, rs, by have := HL.out; simpa using this, hcr, fun z hz => HN.out z (List.mem_cons_of_mem _ hz), H1.out, hk.trans hkw⟩
end Go.Proofs.YtbdlobmciemadaaDoor
