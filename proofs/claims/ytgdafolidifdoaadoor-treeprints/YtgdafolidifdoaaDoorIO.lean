/- The builder's String; the walk of line. Conditions: what is written is within a bound. -/
import Derived.Test.YtgdafolidifdoaaDoorIN
namespace Go.Proofs.YtgdafolidifdoaaDoor.Tp
open Go.ChangeShapes Go.WideShapes Go.ChangeAt Go.RowKit Go.Shelf

set_option maxHeartbeats 2000000 in
set_option maxRecDepth 100000 in
theorem Bl.string {w0 w : World} {b : Nat} {acc : ByteArray} (h : Bl w0 b acc w) (h0 : acc.size ≠ 0) :
    Calls Tryd.prog 22 #[.pointer (some ⟨b, 0, none⟩)] w fun e w' => e = .returned (.string acc) ∧ Kept w0 w' := by
  obtain ⟨p, hAt⟩ : ∃ p, Lib.BuilderAtF 54 5 w0.heap.size b p (Lib.strCells acc) w := by
    rcases h.out with h | h
    · exact ⟨_, h⟩
    · exact ⟨_, h⟩
  have HLow : Hid (Kept w0 w) := h.low
  obtain ⟨⟨l⟩⟩ := acc
  have hl0 : l.length ≠ 0 := h0
  have hne0 : l ≠ [] := by intro e; subst e; exact hl0 rfl
  obtain ⟨hB, v, hbk, hown, hne⟩ := hAt
  have hown' : w.ownsRowF w0.heap.size 5 1 v l.length (Lib.byteCells l) := by
    have e : Lib.strCells ⟨⟨l⟩⟩ = Lib.byteCells l := rfl
    rw [e, Lib.byteCells_length] at hown
    exact hown
  obtain ⟨g, cap, cur, fz, rfl, hbg, hg, hfz, hnc, hcm, hcs, htake⟩ : ∃ g cap cur fz, v = .slice (some ⟨g, 0, none⟩) l.length cap ∧ w0.heap.size ≤ g ∧ w.heap[g]? = some (.cells cur 5 fz) ∧ fz.2 ≤ l.length * 1 ∧ l.length ≤ cap ∧ cap ≤ maxLen ∧ cur.size = cap * 1 ∧ cur.toList.take (l.length * 1) = Lib.byteCells l := by
    rcases hown'.2 with ⟨_, hz⟩ | ⟨g, cap, cur, fz, hv, r⟩
    · exact absurd hz hl0
    · exact ⟨g, cap, cur, fz, hv, r⟩
  have c1 : w.drew.cell? ⟨b, 1, none⟩ = some (.slice (some ⟨g, 0, none⟩) l.length cap) := by
    have : w.drew.heap[b]? = some (.cells #[p, .slice (some ⟨g, 0, none⟩) l.length cap] 54 (0, 0)) := hbk
    rw [Lib.cell_of_heap this]; rfl
  have hSD : (Builtin.unsafeSliceData_ #[50] 72 #[.slice (some ⟨g, 0, none⟩) l.length cap]).run Tryd.prog w.drew = .ok (.pointer (some ⟨g, 0, none⟩)) w.drew :=
    Lib.run_unsafeSliceData_row _ _ _ _ _ _ (by omega)
  have hUS : (Builtin.unsafeString_ #[72, 3] 9 #[.pointer (some ⟨g, 0, none⟩), .int .i64 l.length]).run Tryd.prog w.drew = .ok (.string ⟨l.toArray⟩) (w.drew.freeze ⟨g, 0, none⟩ l.length) := by
    refine Lib.run_unsafeString_row w.drew 72 3 9 5 Tryd.underlying72 Tryd.Builder_Extra_156.cellsByte g cur.size (by have hg' : w.drew.heap[g]? = some (.cells cur 5 fz) := hg; simp [World.shape?, hg']) l hne0 (by omega) (by unfold maxLen at hcm; omega) ?_
    intro j x hx
    have := hown'.cells (g := g) rfl j (.int .u8 x.toNat) (by simp [Lib.byteCells, hx])
    exact this
  have HK : Hid (Kept w0 (w.drew.freeze ⟨g, 0, none⟩ l.length)) := ⟨Lib.below_freeze HLow.out.drew.out (p := ⟨g, 0, none⟩) hbg _⟩
  have mixed := Tryd.lays156.mixed
  clear hown hown' hne hbk hg hfz hnc hcm hcs htake h
  go_enter Tryd.func22, Tryd.ntmps22
  go_wp2
  go_region_o
  all_goals (go_wp2; go_ret; exact ⟨rfl, HK.out⟩)

/-- One text behind another. -/
def cat : List ByteArray → ByteArray
  | [] => ⟨#[]⟩
  | x :: r => x ++ cat r
theorem cat_app : ∀ l m : List ByteArray, cat (l ++ m) = cat l ++ cat m
  | [], m => by rw [List.nil_append]; exact (em_app _).symm
  | x :: r, m => by rw [List.cons_append, cat, cat, cat_app r m, ByteArray.append_assoc]
theorem tb_more (n : Nat) : tb (n + 1) = tb n ++ ⟨#[9]⟩ := rfl

set_option maxHeartbeats 2000000 in
set_option maxRecDepth 100000 in
theorem line_walk {w0 w : World} {b g : Nat} {acc : ByteArray} (h : Bl w0 b acc w) (d : Nat) (hd : d ≤ 10) {l : List ByteArray} {cs : Array Value} (hg : w.heap[g]? = some (.cells cs 9)) (hcs : cs.toList = sc l) {n : Nat} (hn : l.length = n) (hn9 : n ≤ 9) (ha : acc.size ≤ 500000000000) (hc : (cat l).size ≤ 1000000) :
    Calls Tryd.prog 30 #[.pointer (some ⟨b, 0, none⟩), .int .i64 (d : Nat), .slice (some ⟨g, 0, none⟩) n n] w fun e w' => e = .returned (.tuple #[]) ∧ Bl w0 b (acc ++ (tb d ++ cat l ++ ⟨#[10]⟩)) w' ∧ Ky w w' := by
  have hcell : ∀ {W : World}, Ky w W → ∀ (j : Nat) (x : ByteArray), l[j]? = some x → W.cell? ⟨g, j, none⟩ = some (.string x) := fun {W} k j x hx => by
    rw [cell_of_row W g j _ _ _ (k.out g cs _ _ hg (by decide) (by decide)), ← Array.getElem?_toList, hcs]
    exact sc_at hx
  have HC : Hid (∀ W, Ky w W → ∀ (j : Nat) (x : ByteArray), l[j]? = some x → W.cell? ⟨g, j, none⟩ = some (.string x)) := fun W k => hcell k
  have HB : Hid (Bl w0 b acc w) := h
  have HL : Hid (l.length = n) := hn
  have hT : Hid (∀ W a s, Bl w0 b a W → a.size + s.size ≤ 1000000000000 → Calls Tryd.prog 39 #[.pointer (some ⟨b, 0, none⟩), .string s] W fun e w' => (∃ v, e = .returned v) ∧ Bl w0 b (a ++ s) w' ∧ Ky W w') := fun W a s h1 h2 => (h1.text s h2).mono fun _ _ ⟨a1, a2, a3⟩ => ⟨a1, a2, h1.ky a3⟩
  have hY9 : Hid (∀ W a, Bl w0 b a W → a.size ≤ 1000000000000 → Calls Tryd.prog 38 #[.pointer (some ⟨b, 0, none⟩), .int .u8 9] W fun e w' => (∃ v, e = .returned v) ∧ Bl w0 b (a ++ ⟨#[9]⟩) w' ∧ Ky W w') := fun W a h1 h2 => (h1.byte 9 h2).mono fun _ _ ⟨a1, a2, a3⟩ => ⟨a1, a2, h1.ky a3⟩
  have hY10 : Hid (∀ W a, Bl w0 b a W → a.size ≤ 1000000000000 → Calls Tryd.prog 38 #[.pointer (some ⟨b, 0, none⟩), .int .u8 10] W fun e w' => (∃ v, e = .returned v) ∧ Bl w0 b (a ++ ⟨#[10]⟩) w' ∧ Ky W w') := fun W a h1 h2 => (h1.byte 10 h2).mono fun _ _ ⟨a1, a2, a3⟩ => ⟨a1, a2, h1.ky a3⟩
  clear h hg hcs hcell hn
  go_enter Tryd.func30, Tryd.ntmps30
  go_wp2
  go_loopg [9] d (fun g' iv wx => ∃ i : Nat, i + g' = d ∧ iv = .int .i64 (i : Nat) ∧ Bl w0 b (acc ++ tb i) wx ∧ Ky w wx)
  case atStart => exact ⟨0, by omega, rfl, by rw [show acc ++ tb 0 = acc from app_em acc]; exact HB.out, Ky.refl w⟩
  case round =>
    obtain ⟨i, hi, rfl, hb, hk⟩ := hrel
    have HBi : Hid (Bl w0 b (acc ++ tb i) wr) := hb
    have HKi : Hid (Ky w wr) := hk
    have hsz : (acc ++ tb i).size ≤ 1000000000000 := by rw [ByteArray.size_append, tb_size]; omega
    cases gk with
    | succ g' =>
      have hlt : (i : Int) < (d : Nat) := by omega
      have HG : Hid (i + g' + 1 = d) := by show i + g' + 1 = d; omega
      have f9 := hY9.out wr _ hb hsz
      have hi9 : i < 10 := by omega
      clear hb hk hi
      go_wp2_with (go_at_call 38; (with_reducible refine f9.mono ?_); clear f9; rintro e w1 ⟨⟨v, rfl⟩, b1, k1⟩; have HB1 : Hid _ := b1; have HK1 : Hid _ := k1; clear b1 k1)
      go_roundg g'
      case measure => omega
      case rel => exact ⟨i + 1, by have := HG.out; omega, by go_num, by rw [tb_more, ← ByteArray.append_assoc]; exact HB1.out, HKi.out.trans HK1.out⟩
    | zero =>
      obtain rfl : i = d := by omega
      have hi2 : ¬ (i : Int) < (i : Nat) := by omega
      clear hb hk hi
      have hsc : ∀ j, (cat l).size = (cat (l.take j)).size + (cat (l.drop j)).size := fun j => by
        rw [← ByteArray.size_append, ← cat_app, List.take_append_drop]
      have HSC : Hid (∀ j, (cat (l.take j)).size ≤ 1000000) := fun j => by have := hsc j; omega
      clear hsc
      go_wp2
      go_loopg [18] n (fun g' iv wx => ∃ j : Nat, j + g' = n ∧ iv = .int .i64 (j : Nat) ∧ Bl w0 b (acc ++ tb i ++ cat (l.take j)) wx ∧ Ky w wx)
      case atStart => exact ⟨0, by omega, rfl, by rw [show acc ++ tb i ++ cat (l.take 0) = acc ++ tb i from app_em _]; exact HBi.out, HKi.out⟩
      case round =>
        rename World => wq
        obtain ⟨j, hj, rfl, hb, hk⟩ := hrel
        have HBj : Hid (Bl w0 b (acc ++ tb i ++ cat (l.take j)) wq) := hb
        have HKj : Hid (Ky w wq) := hk
        have hs2 : (acc ++ tb i ++ cat (l.take j)).size ≤ 600000000000 := by have := HSC.out j; rw [ByteArray.size_append, ByteArray.size_append, tb_size]; omega
        cases gk with
        | succ g' =>
          have hlt : (j : Int) < (n : Nat) := by omega
          have hltn : j < n := by omega
          have HG : Hid (j + g' + 1 = n) := by show j + g' + 1 = n; omega
          obtain ⟨x, hx⟩ : ∃ x, l[j]? = some x := ⟨_, List.getElem?_eq_getElem (by rw [HL.out]; exact hltn)⟩
          have c0 := HC.out wq hk j x hx
          have HT : Hid (cat (l.take (j + 1)) = cat (l.take j) ++ x) := by
            show _ = _
            rw [List.take_add_one, hx, cat_app]
            show _ ++ (x ++ ⟨#[]⟩) = _
            rw [show x ++ (⟨#[]⟩ : ByteArray) = x from app_em x]
          have hxs : x.size ≤ 1000000 := by have := HSC.out (j + 1); rw [HT.out, ByteArray.size_append] at this; omega
          have f1 := hT.out wq _ x hb (by omega)
          have hj9 : j < 10 := by omega
          clear hb hk hj hx
          go_wp2_with (go_at_call 39; (with_reducible refine f1.mono ?_); clear f1; rintro e w1 ⟨⟨v, rfl⟩, b1, k1⟩; have HB1 : Hid _ := b1; have HK1 : Hid _ := k1; clear b1 k1)
          go_roundg g'
          case measure => omega
          case rel => exact ⟨j + 1, by have := HG.out; omega, by go_num, by rw [HT.out, ← ByteArray.append_assoc]; exact HB1.out, HKj.out.trans HK1.out⟩
        | zero =>
          obtain rfl : j = n := by omega
          have hi3 : ¬ (j : Int) < (j : Nat) := by omega
          have f10 := hY10.out wq _ hb (by omega)
          have HT : Hid (acc ++ tb i ++ cat (l.take j) ++ ⟨#[10]⟩ = acc ++ (tb i ++ cat l ++ ⟨#[10]⟩)) := by
            show _ = _
            rw [List.take_of_length_le (by rw [HL.out]; exact Nat.le_refl _)]
            simp only [ByteArray.append_assoc]
          clear hb hk hj
          go_wp2_with (go_at_call 38; (with_reducible refine f10.mono ?_); clear f10; rintro e w1 ⟨⟨v, rfl⟩, b1, k1⟩; have HB1 : Hid _ := b1; have HK1 : Hid _ := k1; clear b1 k1)
          go_end0
          exact ⟨rfl, by rw [← HT.out]; exact HB1.out, HKj.out.trans HK1.out⟩
end Go.Proofs.YtgdafolidifdoaaDoor.Tp
