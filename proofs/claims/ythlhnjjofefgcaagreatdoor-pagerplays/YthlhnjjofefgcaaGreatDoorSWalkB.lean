/- The walks of reach, Use and Free where they change something. Conditions: a place that there is, of no more than 4096. -/
import Derived.Test.YthlhnjjofefgcaaGreatDoorSWalkA
namespace Go.Proofs.YthlhnjjofefgcaaGreatDoor.S
open Go.ChangeShapes Go.WideShapes Go.ChangeAt Go.RowKit

theorem zeroCells_one (z : Value) (k : Nat) : Builtin.zeroCells #[z] k = Array.replicate k z := by
  apply Array.ext
  · simp [Builtin.zeroCells]
  · intro i h1 h2
    simp [Builtin.zeroCells, Nat.mod_one]

theorem info50 : (Tryz.prog.info? 50).map (fun i => (i.zero, i.size, i.bytes)) = some (some (.int .u64 0), 1, 8) := by kernel_rfl

theorem wsCells_zeros (ws : List Nat) (k : Nat) : wsCells (ws ++ List.replicate k 0) = wsCells ws ++ List.replicate k (.int .u64 0) := by
  simp [wsCells]
theorem wsCells_length (ws : List Nat) : (wsCells ws).length = ws.length := by simp [wsCells]

/-- Zeros behind words of one's own. -/
theorem append_zeros {w : World} {B : Nat} {v : Value} {ws : List Nat} (ho : w.ownsRow B 50 1 v ws.length (wsCells ws)) (k : Nat) (h0 : 0 < k) (hk : ws.length + k ≤ 64) (hB : B ≤ w.heap.size) (ty : TypeId) :
    ∃ v' w', (Builtin.append_ #[92, 3] ty #[v, .int .i64 (k : Nat)]).run Tryz.prog w = .ok v' w' ∧ w'.ownsRow B 50 1 v' (ws ++ List.replicate k 0).length (wsCells (ws ++ List.replicate k 0)) ∧ w.grownBy w' v.ownBlock := by
  obtain ⟨i, hi, hz, hs, hby⟩ := info_parts info50
  have hl : (ws ++ List.replicate k 0).length = ws.length + k := by simp
  rw [hl, wsCells_zeros]
  have grow : ∀ (p : Option Addr) (c : Nat), c < ws.length + k → (Builtin.firstCells i.size ws.length (.slice p ws.length c)).run Tryz.prog w.drew = .ok (wsCells ws).toArray w.drew →
      ∃ v' w', (Builtin.append_ #[92, 3] ty #[.slice p ws.length c, .int .i64 (k : Nat)]).run Tryz.prog w = .ok v' w' ∧ w'.ownsRow B 50 1 v' (ws.length + k) (wsCells ws ++ List.replicate k (.int .u64 0)) ∧ ∀ row, w.grownBy w' row := by
    intro p c hc hold
    have hr := Lib.run_append_grow_zeros (P := Tryz.prog) w 92 3 ty 50 i (.int .u64 0) .i64 .i64 Tryz.underlying92 Tryz.underlying3 hi hz p ws.length c (wsCells ws) hold k h0 (by omega) hc (by omega) (by rw [hby]; omega) (growslice_fits (by omega) (by rw [hby]; omega))
    refine ⟨_, _, hr, ⟨by simp [wsCells], .inr ⟨w.heap.size, _, _, rfl, hB, heap_alloc_new w.drew _, grownCap_ge w _ c 50, grownCap_le_maxLen w _ c 50 (by unfold maxLen; omega), ?_, ?_⟩⟩, fun row => ⟨rfl, rfl, rfl, by simp, fun q hq _ => heap_alloc_old w.drew _ hq⟩⟩
    · have hge := grownCap_ge w (ws.length + k) c 50
      simp only [Array.size_append, List.size_toArray, size_zeroCells, wsCells_length]
      show ws.length + k * 1 + _ * 1 = _ * 1
      omega
    · simp only [Array.toList_append, List.append_assoc]
      have e : (Builtin.zeroCells (Value.int .u64 0).cells k).toList = List.replicate k (.int .u64 0) := by
        rw [show (Value.int .u64 0).cells = #[Value.int .u64 0] from rfl, zeroCells_one]; simp
      rw [e, ← List.append_assoc]
      have hlen : (wsCells ws ++ List.replicate k (Value.int .u64 0)).length = (ws.length + k) * 1 := by simp [wsCells]
      rw [← hlen]
      exact List.take_left
  rcases ho.2 with ⟨rfl, hn⟩ | ⟨g, cap, cur, rfl, hbg, hg, hnc, hcm, hcs, htake⟩
  · have hw0 : ws = [] := List.eq_nil_of_length_eq_zero hn
    subst hw0
    obtain ⟨v', w', h1, h2, h3⟩ := grow none 0 (by simpa using h0) (by simp [Builtin.firstCells, wsCells])
    exact ⟨v', w', h1, h2, h3 _⟩
  · by_cases hroom : ws.length + k ≤ cap
    · have e : (Builtin.zeroCells (Value.int .u64 0).cells k).toList = List.replicate k (.int .u64 0) := by
        rw [show (Value.int .u64 0).cells = #[Value.int .u64 0] from rfl, zeroCells_one]; simp
      have hst := run_storeCells_at Tryz.prog g (ws.length * 1) 50 (List.replicate k (.int .u64 0)) 0 cur w hg (by simp; omega) (by intro u hu; rw [List.eq_of_mem_replicate hu]; rfl)
      simp only [Nat.add_zero] at hst
      have hw : IntKind.i64.wrap (k : Int) = k := by rw [IntKind.wrap_i64]; omega
      have h48i : ¬ (281474976710656 < (k : Int) * 8) := by omega
      have hneg : ¬ ((k : Int) < 0) := by omega
      have hk0 : k ≠ 0 := by omega
      have hr : (Builtin.append_ #[92, 3] ty #[.slice (some ⟨g, 0, none⟩) ws.length cap, .int .i64 (k : Nat)]).run Tryz.prog w = .ok (.slice (some ⟨g, 0, none⟩) (ws.length + k) cap) (w.setRow g (cur.toList.take (ws.length * 1) ++ List.replicate k (Value.int .u64 0) ++ cur.toList.drop (ws.length * 1 + (List.replicate k (Value.int .u64 0)).length)).toArray) := by
        simp [Builtin.append_, run_underlying Tryz.underlying92, run_underlying Tryz.underlying3, sizeOf, typeInfo, zeroValue, hi, hz, hs, hby, asInt, asIntOf, hw, hneg, h48i, hk0, hroom, Addr.add_lit, e]
        have hst' := hst
        simp at hst'
        rw [hst']
        rfl
      refine ⟨_, _, hr, ⟨by simp [wsCells], .inr ⟨g, cap, _, rfl, hbg, setRow_heap w g cur _ 50 _ hg, hroom, hcm, ?_, ?_⟩⟩, ⟨rfl, rfl, rfl, by simp, fun q _ hq => setRow_other w g q _ (fun e => hq (by simp [Value.ownBlock, e]))⟩⟩
      · simp only [List.size_toArray, List.length_append, List.length_take, List.length_drop, Array.length_toList, List.length_replicate]
        omega
      · rw [htake]
        have hlen : (wsCells ws ++ List.replicate k (Value.int .u64 0)).length = (ws.length + k) * 1 := by simp [wsCells]
        rw [← hlen]
        exact List.take_left
    · obtain ⟨v', w', h1, h2, h3⟩ := grow (some ⟨g, 0, none⟩) cap (by omega) (run_firstCells_some _ _ _ _ _ _ _ (by rw [hs]; simp [wsCells]) (fun j u hj => ho.cells (g := g) rfl j u hj))
      exact ⟨v', w', h1, h2, h3 _⟩

theorem getD_zeros (ws : List Nat) (k j : Nat) : (ws ++ List.replicate k 0).getD j 0 = ws.getD j 0 := by
  simp only [List.getD_eq_getElem?_getD, List.getElem?_append]
  split
  · rfl
  · rename_i h
    rw [List.getElem?_eq_none (Nat.le_of_not_lt h), List.getElem?_replicate]
    split <;> rfl

/-- An append whose run is known. -/
theorem wpList_append_run {P : Program} {w w' : World} {ops : Array Oper} {rest : List Oper} {o : Oper} {a : Go.Act} {Q : Exit → Go.Act → World → Prop} (hgd : o.guard = none) (s x : Operand) (ts : Array TypeId) (vs vx v' : Value)
    (ho : o.op = .call { callee := .builtin .append, args := #[s, x], argTypes := ts }) (hs : a.eval s = vs) (hx : a.eval x = vx)
    (hr : (Builtin.append_ ts o.type #[vs, vx]).run P w = .ok v' w') (h : wpList P ops Q rest (a.put o.dst v') w') : wpList P ops Q (o :: rest) a w :=
  wpList_plain hgd fun _ hK => by
    unfold Oper.wp execOp
    simp only [ho, resolve, invoke, builtin, Sem.run_bind, Sem.run_pure, Result.andThen_ok, List.map_toArray, List.map_cons, List.map_nil, hs, hx, hr]
    exact hK _ _ h

theorem PAt.own_block {B : Nat} {w : World} {b m l : Nat} {ws : List Nat} {v : Value} (h : PAt B w b m l ws v) : ∀ r, v.ownBlock = some r → B ≤ r ∧ ∃ cs t fr, w.heap[r]? = some (.cells cs t fr) ∧ t = 50 := by
  intro r hr
  rcases h.row.2 with ⟨rfl, _⟩ | ⟨g, cap, cur, rfl, hb, hg, _⟩
  · cases hr
  · injection hr with hr
    subst hr
    exact ⟨hb, _, _, _, hg, rfl⟩

/-- Words that grew: the rest of the places stays. -/
theorem PAt.grow {B : Nat} {w w3 : World} {b m l : Nat} {ws ws' : List Nat} {v v' : Value} (h : PAt B w b m l ws v) (hB : B ≤ w.heap.size) (hg : w.grownBy w3 v.ownBlock)
    (ho : w3.ownsRow B 50 1 v' ws'.length (wsCells ws')) (hl : ws'.length ≤ 64) (hw : ∀ x ∈ ws', x < 18446744073709551616) :
    PAt B (w3.setCell ⟨b, 2, none⟩ v') b m l ws' v' ∧ On B w (w3.setCell ⟨b, 2, none⟩ v') ∧ w3.cell? ⟨b, 2, none⟩ = some v ∧ w3.frozen? ⟨b, 2, none⟩ = false := by
  have o1 : On B w w3 := (On.refl B w).grown hB hg (fun r hr => by obtain ⟨h1, cs, t, fr, h2, rfl⟩ := h.own_block r hr; exact ⟨h1, cs, _, fr, h2, not50⟩)
  have e1 : w3.heap[b]? = w.heap[b]? := hg.block b (Array.getElem?_eq_some_iff.1 h.blk).1 (fun e => by
    obtain ⟨_, cs, t, fr, hcs, rfl⟩ := h.own_block b e.symm
    rw [h.blk] at hcs; injection hcs with hcs; injection hcs with _ e2 _; exact absurd e2 (by decide))
  have hb3 := e1.trans h.blk
  have o2 : On B w3 (w3.setCell ⟨b, 2, none⟩ v') := (On.refl B w3).setCell h.leb hb3 not94 2 v'
  refine ⟨⟨?_, own_set (i := 2) ho hb3 (by decide) v', h.leb, h.few, h.free, hl, hw⟩, o1.trans o2, ?_, frozen_of_row w3 b _ _ _ hb3⟩
  · rw [heap_setCell_same w3 b 2 _ _ _ hb3]; rfl
  · rw [cell_of_row w3 b _ _ _ _ hb3]; rfl

theorem bitOf_zeros (ws : List Nat) (k n : Nat) : bitOf (ws ++ List.replicate k 0) n = bitOf ws n := by simp only [bitOf, getD_zeros]

set_option maxHeartbeats 1000000 in
set_option maxRecDepth 100000 in
theorem reach_walk {B : Nat} {w : World} {b m l : Nat} {u : Nat → Bool} (h : SAt B w b m l u) (hB : B ≤ w.heap.size) (n : Nat) (hn : n < m) :
    Calls Tryz.prog 46 #[.pointer (some ⟨b, 0, none⟩), .int .i64 (n : Nat)] w fun e w' => e = .returned (.tuple #[]) ∧ (∃ ws v, PAt B w' b m l ws v ∧ (∀ k, u k = bitOf ws k) ∧ n / 64 < ws.length) ∧ On B w w' := by
  obtain ⟨ws, v, k, hu⟩ := h.out
  obtain ⟨c0, c1, c2⟩ := k.cell
  have hm := k.few
  have hl := k.long
  by_cases hj : n / 64 < ws.length
  · obtain ⟨p, c, rfl⟩ := k.form
    have HU : Hid (∀ n, u n = bitOf ws n) := hu
    clear hu
    go_enter Tryz.func46, Tryz.ntmps46
    go_wp2
    first | go_end0 | refine bodyPost_ret (results_none rfl _ _ _) rfl ?_
    exact ⟨rfl, ⟨_, _, k, HU.out, hj⟩, On.refl _ _⟩
  · obtain ⟨q, hq⟩ : ∃ q : Nat, n / 64 + 1 = ws.length + q := ⟨n / 64 + 1 - ws.length, by omega⟩
    obtain ⟨v', w3, hr, ho, hg⟩ := append_zeros k.row q (by omega) (by omega) hB 92
    obtain ⟨k3, o3, c3, f3⟩ := k.grow hB hg ho (by simp; omega) (by
      intro x hx
      rcases List.mem_append.1 hx with hx | hx
      · exact k.word x hx
      · rw [List.eq_of_mem_replicate hx]; decide)
    have hlen : n / 64 < (ws ++ List.replicate q 0).length := by simp; omega
    have HU : Hid (∀ n, u n = bitOf (ws ++ List.replicate q 0) n) := by intro n; rw [bitOf_zeros]; exact hu n
    obtain ⟨p, c, rfl⟩ := k.form
    have hqq : ((q : Nat) : Int) = (n : Int) / 64 + 1 - (ws.length : Int) := by omega
    rw [hqq] at hr
    obtain ⟨p', c', rfl⟩ := k3.form
    clear hqq hu ho hg k
    generalize ws ++ List.replicate q 0 = ws' at k3 o3 hr c3 f3 hlen HU
    have hlen' : Hid (n / 64 < ws'.length) := hlen
    clear hlen
    go_enter Tryz.func46, Tryz.ntmps46
    go_wp2_with (at_builtin; refine wpList_append_run rfl _ _ _ _ _ _ rfl rfl rfl hr ?_)
    first | go_end0 | refine bodyPost_ret (results_none rfl _ _ _) rfl ?_
    exact ⟨rfl, ⟨_, _, k3, HU.out, hlen'.out⟩, o3⟩

/-- One word turns. -/
theorem PAt.put {B : Nat} {w : World} {b m l g c : Nat} {ws : List Nat} (h : PAt B w b m l ws (.slice (some ⟨g, 0, none⟩) ws.length c)) (hB : B ≤ w.heap.size) (j : Nat) (x : Nat) (hx : x < 18446744073709551616) :
    PAt B (w.setCell ⟨g, j, none⟩ (.int .u64 (x : Nat))) b m l (ws.set j x) (.slice (some ⟨g, 0, none⟩) ws.length c) ∧ On B w (w.setCell ⟨g, j, none⟩ (.int .u64 (x : Nat))) := by
  obtain ⟨r1, g1⟩ := h.row.stored j (.int .u64 (x : Nat))
  obtain ⟨hb, cs, t, fr, hcs, rfl⟩ := h.own_block g rfl
  have o1 : On B w _ := (On.refl B w).grown hB g1 (fun r hr => by injection hr with hr; subst hr; exact ⟨hb, cs, _, fr, hcs, not50⟩)
  have e1 := g1.block b (Array.getElem?_eq_some_iff.1 h.blk).1 (fun e => by
    injection e with e; subst e; rw [h.blk] at hcs; injection hcs with hcs; injection hcs with _ e2 _; exact absurd e2 (by decide))
  refine ⟨⟨e1.trans h.blk, ?_, h.leb, h.few, h.free, by simpa using h.long, ?_⟩, o1⟩
  · have : wsCells (ws.set j x) = (wsCells ws).set j (.int .u64 (x : Nat)) := by simp [wsCells, List.map_set]
    rw [this, List.length_set]
    exact r1
  · intro y hy
    rcases List.mem_or_eq_of_mem_set hy with hy | rfl
    · exact h.word y hy
    · exact hx

/-- How many are free turns. -/
theorem PAt.count {B : Nat} {w : World} {b m l : Nat} {ws : List Nat} {v : Value} (h : PAt B w b m l ws v) (l' : Nat) (hl : l' ≤ m) :
    PAt B (w.setCell ⟨b, 1, none⟩ (.int .i64 (l' : Nat))) b m l' ws v ∧ On B w (w.setCell ⟨b, 1, none⟩ (.int .i64 (l' : Nat))) := by
  refine ⟨⟨?_, own_set (i := 1) h.row h.blk (by decide) _, h.leb, h.few, hl, h.long, h.word⟩, (On.refl B w).setCell h.leb h.blk not94 1 _⟩
  rw [heap_setCell_same w b 1 _ _ _ h.blk]; rfl

/-- One place is used. -/
def useAt (u : Nat → Bool) (n : Nat) : Nat → Bool := fun k => if k = n then true else u k
/-- One place is free. -/
def freeAt (u : Nat → Bool) (n : Nat) : Nat → Bool := fun k => if k = n then false else u k

theorem bitOf_set (ws : List Nat) (n x k : Nat) (h : n / 64 < ws.length) : bitOf (ws.set (n / 64) x) k = if k / 64 = n / 64 then x.testBit (k % 64) else bitOf ws k := by
  unfold bitOf
  simp only [List.getD_eq_getElem?_getD, List.getElem?_set]
  by_cases e : n / 64 = k / 64
  · rw [if_pos e, if_pos h, if_pos e.symm]; rfl
  · rw [if_neg e, if_neg (fun q => e q.symm)]
theorem bitOf_use (ws : List Nat) (n k : Nat) (h : n / 64 < ws.length) : bitOf (ws.set (n / 64) (ws[n / 64] ||| 2 ^ (n % 64))) k = if k = n then true else bitOf ws k := by
  rw [bitOf_set _ _ _ _ h]
  by_cases e : k / 64 = n / 64
  · rw [if_pos e, Nat.testBit_or, Nat.testBit_two_pow]
    have e2 : bitOf ws k = ws[n / 64].testBit (k % 64) := by unfold bitOf; rw [e, List.getD_eq_getElem?_getD, List.getElem?_eq_getElem h]; rfl
    rw [e2]
    by_cases e3 : k = n
    · subst e3; simp
    · rw [if_neg e3]
      have : n % 64 ≠ k % 64 := by omega
      simp [this]
  · rw [if_neg e, if_neg (fun q => e (by rw [q]))]
theorem bitOf_free (ws : List Nat) (n k x : Nat) (h : n / 64 < ws.length) (hx : ∀ j, j < 64 → x.testBit j = (ws[n / 64].testBit j && !decide (j = n % 64))) : bitOf (ws.set (n / 64) x) k = if k = n then false else bitOf ws k := by
  rw [bitOf_set _ _ _ _ h]
  by_cases e : k / 64 = n / 64
  · rw [if_pos e, hx _ (by omega)]
    have e2 : bitOf ws k = ws[n / 64].testBit (k % 64) := by unfold bitOf; rw [e, List.getD_eq_getElem?_getD, List.getElem?_eq_getElem h]; rfl
    rw [e2]
    by_cases e3 : k = n
    · subst e3; simp
    · rw [if_neg e3]
      have : k % 64 ≠ n % 64 := by omega
      simp [this]
  · rw [if_neg e, if_neg (fun q => e (by rw [q]))]
end Go.Proofs.YthlhnjjofefgcaaGreatDoor.S
