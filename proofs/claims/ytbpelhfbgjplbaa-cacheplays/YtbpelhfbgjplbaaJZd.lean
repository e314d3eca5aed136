/- The walk of below; acts that came in. Conditions: those that each row names. -/
import Derived.Test.YtbpelhfbgjplbaaJZb
import Derived.Test.YtbpelhfbgjplbaaJZc
import Derived.Deep.SlicePairs
namespace Go.Proofs.Ytbpelhfbgjplbaa.Ca
open Go.ChangeShapes Go.WideShapes Go.ChangeAt Go.RowKit Go.Deep
open N (Kept)
open Q (kept_cell Kv Vn Km seq_iff got got_at got_no take_more)
variable {E : Nat → Prop} {X : List En}

theorem Kv.says {w : World} {B b m : Nat} {F : ByteArray → Option ByteArray} (h : Kv E w B b m F) {l : List Pr} (ho : Ord l) (hf : F = fun k => got k l) : m = l.length := by
  obtain ⟨M, p, q, c, d, h1, h2⟩ := h.out
  have := same_len (ord_nd ho) h1.nd (fun k => by rw [← h2 k, hf])
  rw [this, h1.len]

set_option maxRecDepth 100000 in
set_option maxHeartbeats 1000000 in
theorem below_walk {w : World} {B b m : Nat} {F : ByteArray → Option ByteArray} (kv : Kv E w B b m F) {p : Option Addr} {n c : Nat} {l : List Pr} (h : Pl w p n l) (ho : Ord l) (hf : F = fun k => got k l) (hn : n ≤ 1000) :
    Calls Try.prog 13 #[.pointer (some ⟨b, 0, none⟩), .slice p n c] w fun e w' => e = .returned (.bool true) ∧ w' = w := by
  have hL := Q.len_walk kv
  rw [Kv.says kv ho hf, h.len] at hL
  have HG : Hid (∀ (i : Nat) (x : Pr), l[i]? = some x → Calls Try.prog 26 #[.pointer (some ⟨b, 0, none⟩), .string x.1] w fun e w' => e = .returned (.tuple #[.string x.2, .bool true, .int .i64 0]) ∧ w' = w) := fun i x hx => by
    have := Q.get_walk kv x.1
    rw [hf] at this
    simp only [got_mem (ord_nd ho) hx] at this
    exact this
  have HL : Hid (Calls Try.prog 27 #[.pointer (some ⟨b, 0, none⟩)] w fun e w' => e = .returned (.int .i64 (n : Nat)) ∧ w' = w) := hL
  obtain ⟨hl, g, off, hat, hcl⟩ := h
  have AT : Hid (0 < n → p = some ⟨g, off, none⟩) := hat
  have LN : Hid (l.length = n) := hl
  have HC : Hid (∀ i e, l[i]? = some e → w.cell? ⟨g, off + i * 2, none⟩ = some (.string e.1) ∧ w.cell? ⟨g, off + i * 2 + 1, none⟩ = some (.string e.2)) := hcl
  clear hl hat hcl hL kv hf ho
  go_enter Try.func13, Try.ntmps13
  go_wp2
  go_loopg [5] n (fun gg iv wx => ∃ i : Nat, iv = .int .i64 (i : Nat) ∧ Hid (gg = n - i) ∧ i ≤ n ∧ wx = w)
  case atStart => exact ⟨0, rfl, rfl, Nat.zero_le _, rfl⟩
  case round =>
    obtain ⟨i, rfl, hg, hin, rfl⟩ := hrel
    by_cases h1 : (i : Int) < (n : Int)
    · obtain rfl := AT.out (by omega)
      obtain ⟨x, hx⟩ : ∃ x, l[i]? = some x := ⟨_, List.getElem?_eq_getElem (by rw [LN.out]; omega)⟩
      obtain ⟨c0, c1⟩ := HC.out i x hx
      have g1 := HG.out i x hx
      clear hx
      go_wp2_with (go_at_call 26; (with_reducible refine g1.mono ?_); rintro e w2 ⟨rfl, hw2⟩; rw [hw2]; clear hw2 g1)
      go_roundg (n - (i + 1))
      case measure => rw [hg.out]; omega
      case rel => exact ⟨i + 1, by go_num, rfl, by omega, rfl⟩
    · have g2 := HL.out
      obtain rfl : i = n := by omega
      go_wp2_with (go_at_call 27; (with_reducible refine g2.mono ?_); rintro e w2 ⟨rfl, hw2⟩; rw [hw2]; clear hw2 g2)
      go_ret
      exact ⟨by first | rfl | simp, rfl⟩

/-- Acts that came in. -/
structure Acts (W : World) (p : Option Addr) (n : Nat) where
  b : Nat
  o : Nat
  what : Nat → Int
  k : Nat → ByteArray
  v : Nat → ByteArray
  max : n ≤ 9223372036854775807
  at_ : 0 < n → p = some ⟨b, o, none⟩
  c0 : ∀ j, j < n → W.cell? ⟨b, o + j * 3, none⟩ = some (.int .i64 (what j))
  c1 : ∀ j, j < n → W.cell? ⟨b, o + j * 3 + 1, none⟩ = some (.string (k j))
  c2 : ∀ j, j < n → W.cell? ⟨b, o + j * 3 + 2, none⟩ = some (.string (v j))
theorem cellsAct : Try.prog.cellsOf 32 = 3 := by kernel_rfl
theorem cells3 : Try.prog.cellsOf 3 = 1 := by kernel_rfl
theorem add_add' (a : Addr) (j k : Nat) : (a.add j).add k = a.add (j + k) := by
  obtain ⟨b, off, spot⟩ := a
  by_cases hj : j = 0
  · subst hj; simp [Addr.add]
  · by_cases hk : k = 0
    · subst hk; simp [Addr.add]
    · simp [Addr.add, hj, hk, Nat.add_assoc]
set_option maxRecDepth 100000 in
theorem acts_of {H : Type} {enc : TypeId × Value → H} {W : World} {base : Nat} {v : Value} {d : DataW H} {ps : List MemPlace} (hv : Value.okWide Try.prog W .any base 22 v)
    (h : DataW.Trod enc Try.prog W 0 (fun _ => true) true 22 v d ps) : ∃ p n cap, v = .slice p n cap ∧ Nonempty (Acts W p n) := by
  obtain ⟨p, n, cap, rfl⟩ := okWide_slice Try.underlying22 hv
  refine ⟨p, n, cap, rfl, ?_⟩
  obtain ⟨fuel, hf⟩ := h
  have hf' : DataW.trod enc Try.prog W 0 (fun _ => true) true fuel 22 [.slice p n cap] = some (d, ps) := by simpa [Value.cells] using hf
  rcases open_slice Try.underlying22 hf' with ⟨h0, _⟩ | ⟨a, len, cap', m, k, D, Pl, hcs, _, hl, hm, hmm, _, hall⟩
  · simp at h0
    obtain ⟨rfl, rfl, rfl⟩ := h0
    exact ⟨0, 0, fun _ => 0, fun _ => ⟨#[]⟩, fun _ => ⟨#[]⟩, by omega, fun h => absurd h (by omega), fun j hj => absurd hj (by omega), fun j hj => absurd hj (by omega), fun j hj => absurd hj (by omega)⟩
  · simp at hcs
    obtain ⟨rfl, rfl, rfl⟩ := hcs
    simp only [if_true] at hmm
    subst hmm
    have hmax : m ≤ 9223372036854775807 := by unfold maxLen at hm; omega
    have key : ∀ i, ∃ x : Int × ByteArray × ByteArray, i < n → W.cell? (a.add (i * 3)) = some (.int .i64 x.1) ∧ W.cell? (a.add (i * 3 + 1)) = some (.string x.2.1) ∧ W.cell? (a.add (i * 3 + 2)) = some (.string x.2.2) := by
      intro i
      by_cases hi : i < n
      · obtain ⟨cs', h1, h2⟩ := hall i (by omega)
        rw [cellsAct] at h1
        obtain ⟨_, hlen, hcell⟩ := World.cells?_some h1
        obtain ⟨xs, k', _, hxy, _, hxl, hf⟩ := DataW.trod_struct Try.underlying32 h2
        match cs', hlen, xs, hxl with
        | [v0, v1, v2], _, [y0, y1, y2], _ =>
          have g0 := hf 0 _ rfl
          have g1 := hf 1 _ rfl
          have g2 := hf 2 _ rfl
          simp [cells3, cells_str] at g0 g1 g2
          obtain ⟨z0, e0, _, _⟩ := DataW.trod_int Try.underlying3 g0
          obtain ⟨s1, e1, _, _⟩ := DataW.trod_string Try.underlying9 g1
          obtain ⟨s2, e2, _, _⟩ := DataW.trod_string Try.underlying9 g2
          simp only [List.cons.injEq, and_true] at e0 e1 e2
          subst e0 e1 e2
          have q0 := hcell 0 (by omega)
          have q1 := hcell 1 (by omega)
          have q2 := hcell 2 (by omega)
          rw [add_add'] at q0 q1 q2
          exact ⟨(z0, s1, s2), fun _ => ⟨by simpa using q0, by simpa using q1, by simpa using q2⟩⟩
      · exact ⟨(0, ⟨#[]⟩, ⟨#[]⟩), fun e => absurd e hi⟩
    obtain ⟨X, hX⟩ := Classical.axiomOfChoice key
    have hk : ∀ j, j < n → a = ⟨a.block, a.off, none⟩ ∧ W.cell? ⟨a.block, a.off + j * 3, none⟩ = some (.int .i64 (X j).1) ∧ W.cell? ⟨a.block, a.off + j * 3 + 1, none⟩ = some (.string (X j).2.1) ∧ W.cell? ⟨a.block, a.off + j * 3 + 2, none⟩ = some (.string (X j).2.2) := by
      intro j hj
      obtain ⟨c0, c1, c2⟩ := hX j hj
      have hsp := no_spot (by have := (hX 0 (by omega)).1; rwa [Nat.zero_mul] at this)
      rw [hsp, Addr.add_lit] at c0 c1 c2
      exact ⟨hsp, c0, by rw [Nat.add_assoc]; exact c1, by rw [Nat.add_assoc]; exact c2⟩
    exact ⟨a.block, a.off, fun j => (X j).1, fun j => (X j).2.1, fun j => (X j).2.2, by omega, fun h => by rw [← (hk 0 h).1], fun j hj => (hk j hj).2.1, fun j hj => (hk j hj).2.2.1, fun j hj => (hk j hj).2.2.2⟩
theorem acts_in {H : Type} {enc : TypeId × Value → H} {W : World} {base : Nat} {v : Value} {d : DataW H} {ps : List MemPlace} (hv : Value.okWide Try.prog W .any base 22 v)
    (h : DataW.Trod enc Try.prog W 0 (fun _ => true) true 22 v d ps) : ∃ p n cap, ∃ _ : Unit, v = .slice p n cap ∧ Nonempty (Acts W p n) := by
  obtain ⟨p, n, cap, e, h⟩ := acts_of hv h
  exact ⟨p, n, cap, (), e, h⟩
end Go.Proofs.Ytbpelhfbgjplbaa.Ca
