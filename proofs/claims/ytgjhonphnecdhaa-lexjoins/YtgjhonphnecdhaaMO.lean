/- Plain words: that words with a tab behind each are the same words. No condition but those that each row names. -/
import Derived.Test.YtgjhonphnecdhaaMB
namespace Go.Proofs.Ytgjhonphnecdhaa.Lx

/-- A tab. -/
def tab : ByteArray := ⟨#[9]⟩
/-- Words with a tab behind each. -/
def jn : List Tok → ByteArray
  | [] => ⟨#[]⟩
  | x :: r => (x.t ++ tab) ++ jn r
theorem empty_append (a : ByteArray) : (⟨#[]⟩ : ByteArray) ++ a = a := by
  apply ext_bt
  · rw [size_append]; exact Nat.zero_add _
  · intro k _
    rw [bt_append, if_neg (by exact Nat.not_lt_zero k)]; rfl
theorem append_empty (a : ByteArray) : a ++ (⟨#[]⟩ : ByteArray) = a := by
  apply ext_bt
  · rw [size_append]; rfl
  · intro k hk
    rw [bt_append]
    by_cases h : k < a.size
    · rw [if_pos h]
    · rw [size_append] at hk; exact absurd hk (by show ¬ k < a.size + 0; omega)
theorem append_three (a b c : ByteArray) : (a ++ b) ++ c = a ++ (b ++ c) := by
  apply ext_bt
  · simp only [size_append]; omega
  · intro k _
    simp only [bt_append, size_append]
    by_cases h1 : k < a.size
    · rw [if_pos (by omega), if_pos h1, if_pos h1]
    · by_cases h2 : k < a.size + b.size
      · rw [if_pos h2, if_neg h1, if_neg h1, if_pos (by omega)]
      · rw [if_neg h2, if_neg h1, if_neg (by omega)]
        congr 1; omega
theorem jn_append : ∀ (a b : List Tok), jn (a ++ b) = jn a ++ jn b
  | [], b => (empty_append _).symm
  | x :: r, b => by
    show (x.t ++ tab) ++ jn (r ++ b) = ((x.t ++ tab) ++ jn r) ++ jn b
    rw [jn_append r b]
    exact (append_three (x.t ++ tab) (jn r) (jn b)).symm
theorem jn_one (x : Tok) : jn [x] = x.t ++ tab := append_empty _
theorem tab_size : tab.size = 1 := rfl
theorem jn_cons_size (x : Tok) (r : List Tok) : (jn (x :: r)).size = x.t.size + 1 + (jn r).size := by
  show ((x.t ++ tab) ++ jn r).size = _
  rw [size_append, size_append, tab_size]

/-- The same words, wherever they stand. -/
def Sm : List Tok → List Tok → Prop
  | [], [] => True
  | x :: l, y :: m => (x.k = y.k ∧ x.n = y.n ∧ x.t = y.t) ∧ Sm l m
  | _, _ => False
theorem Sm.len : ∀ {l m : List Tok}, Sm l m → m.length = l.length
  | [], [], _ => rfl
  | _ :: l, _ :: m, h => by
    have := Sm.len (l := l) (m := m) h.2
    simp [this]
theorem Sm.at : ∀ {l m : List Tok} {i : Nat} {x : Tok}, Sm l m → l[i]? = some x → ∃ y, m[i]? = some y ∧ x.k = y.k ∧ x.n = y.n ∧ x.t = y.t
  | x :: l, y :: m, 0, z, h, hz => by
    simp at hz; subst hz
    exact ⟨y, by simp, h.1⟩
  | x :: l, y :: m, i + 1, z, h, hz => by
    obtain ⟨y', h1, h2⟩ := Sm.at (l := l) (m := m) (i := i) h.2 (by simpa using hz)
    exact ⟨y', by simpa using h1, h2⟩

/-- A word stands elsewhere, a tab behind it. -/
theorem wd_again {s u : ByteArray} {i p : Nat} {x : Tok} (hi : i < s.size) (hx : wd s i = some x) (hb : ∀ k, k < x.t.size → bt u (p + k) = bt x.t k) (h9 : bt u (p + x.t.size) = 9) :
    wd u p = some ⟨x.k, p, x.n, x.t⟩ ∧ gp false u p = p := by
  obtain ⟨xa, x1, x2, x3, _, _, _⟩ := wd_facts hi hx
  have hu : p + x.t.size < u.size := bt_in (by omega)
  have ht : ∀ k, k < x.t.size → bt u (p + k) = bt s (i + k) := fun k hk => by
    rw [hb k hk, ← x3, bt_extract, if_pos (by omega)]
  have hex : u.extract p (p + x.t.size) = x.t := ext_bt (by rw [size_extract]; omega) (fun k hk => by
    rw [size_extract] at hk
    rw [bt_extract, if_pos (by omega), hb k (by omega)])
  have h0 : bt u p = bt s i := ht 0 (by omega)
  have hruns : ∀ q : Nat → Bool, q 9 = false → (∀ k, i ≤ k → k < i + x.t.size → q (bt s k) = true) → run q u p = p + x.t.size := fun q q9 hq =>
    run_is (by omega) (fun _ => by rw [h9]; exact q9) x.t.size p (by omega) (fun k h1 h2 => by
      have := ht (k - p) (by omega)
      rw [show p + (k - p) = k by omega] at this
      rw [this]
      exact hq _ (by omega) (by omega))
  by_cases h3 : knd (bt s i) = 3
  · rw [wd_name h3] at hx
    have hg : gp false u p = p := gp_stop (by
      rw [h0]; intro h
      by_cases e : bt s i = 35
      · have := knd_note.1 e; omega
      · have := knd_gap.1 (show bt s i = 10 ∨ bt s i = 32 ∨ bt s i = 9 ∨ bt s i = 13 by omega); omega)
    refine ⟨?_, hg⟩
    cases hx
    have hsz : (s.extract i (run isN s i)).size = run isN s i - i := by
      have := run_le (p := isN) (Nat.le_of_lt hi)
      rw [size_extract]; omega
    have hge := run_ge isN s i
    simp only at *
    have hr := hruns isN (by decide) (fun k h1 h2 => run_all h1 (by omega))
    rw [wd_name (by rw [h0]; exact h3), hr, hex]
  · by_cases h4 : knd (bt s i) = 4
    · have hg : gp false u p = p := gp_stop (by
        rw [h0]; intro h
        by_cases e : bt s i = 35
        · have := knd_note.1 e; omega
        · have := knd_gap.1 (show bt s i = 10 ∨ bt s i = 32 ∨ bt s i = 9 ∨ bt s i = 13 by omega); omega)
      refine ⟨?_, hg⟩
      by_cases hv : vl s i (run isD s i - i) ≤ 2147483648
      · rw [wd_num h4 hv] at hx
        cases hx
        have hsz : (s.extract i (run isD s i)).size = run isD s i - i := by
          have := run_le (p := isD) (Nat.le_of_lt hi)
          rw [size_extract]; omega
        have hge := run_ge isD s i
        simp only at *
        have hr := hruns isD (by decide) (fun k h1 h2 => run_all h1 (by omega))
        have hvv : vl u p (p + (s.extract i (run isD s i)).size - p) = vl s i (run isD s i - i) := by
          rw [show p + (s.extract i (run isD s i)).size - p = run isD s i - i by omega]
          exact vl_cong _ (fun k hk => ht k (by omega))
        rw [wd_num (by rw [h0]; exact h4) (by rw [hr, hvv]; exact hv), hr, hvv, hex]
      · rw [wd_great h4 hv] at hx; cases hx
    · by_cases h5 : knd (bt s i) = 5
      · have hg : gp false u p = p := gp_stop (by
          rw [h0]; intro h
          by_cases e : bt s i = 35
          · have := knd_note.1 e; omega
          · have := knd_gap.1 (show bt s i = 10 ∨ bt s i = 32 ∨ bt s i = 9 ∨ bt s i = 13 by omega); omega)
        refine ⟨?_, hg⟩
        rw [wd_sign h5] at hx
        cases hx
        obtain ⟨y1, y2, y3⟩ := sl_in hi
        have hsz : (s.extract i (i + sl s i)).size = sl s i := by rw [size_extract]; omega
        simp only at *
        have hsl : sl u p = sl s i := by
          by_cases e : sl s i = 2
          · have e1 := ht 1 (by omega)
            have : bt s i = 61 ∧ bt s (i + 1) = 61 := by
              unfold sl at e; split at e
              · assumption
              · omega
            unfold sl
            rw [h0, e1, if_pos this]
          · have e1 : sl s i = 1 := by omega
            rw [hsz, e1] at h9
            rw [e1]
            unfold sl
            rw [if_neg (by omega)]
        rw [wd_sign (by rw [h0]; exact h5), hsl]
        rw [hsz] at hex
        rw [hex]
      · rw [wd_none h3 h4 h5] at hx; cases hx

/-- A word stands where it says. -/
def At (s : ByteArray) (x : Tok) : Prop := x.a + x.t.size ≤ s.size ∧ s.extract x.a (x.a + x.t.size) = x.t
theorem fin_at (s : ByteArray) : At s (fin s) := by
  refine ⟨Nat.le_refl _, ?_⟩
  apply ext_bt
  · show (s.extract s.size (s.size + 0)).size = 0
    rw [size_extract]; omega
  · intro k hk
    have : (s.extract s.size (s.size + 0)).size = 0 := by rw [size_extract]; omega
    exact absurd hk (by show ¬ k < (s.extract s.size (s.size + 0)).size; omega)
theorem pre_ok {l : List Tok} {r : Except Nat (List Tok)} {ws : List Tok} (h : pre l r = .ok ws) : ∃ r', r = .ok r' ∧ ws = l ++ r' := by
  cases r with
  | error e => cases h
  | ok r => cases h; exact ⟨r, rfl, rfl⟩

/-- What words from there on say: their size, that they stand there, and that joined they are the same. -/
theorem lx_facts (s : ByteArray) : ∀ (n i : Nat) (ws : List Tok), s.size - i ≤ n → i ≤ s.size → lx s i = .ok ws →
    (jn ws).size ≤ 2 * (s.size - i) + 1 ∧ (∀ x ∈ ws, At s x) ∧ ws.length ≤ s.size - i + 1 ∧
    (∀ (u : ByteArray) (p : Nat), (∀ k, k < (jn ws).size → bt u (p + k) = bt (jn ws) k) → u.size = p + (jn ws).size → ∃ m, lx u (gp false u p) = .ok m ∧ Sm ws m) := by
  have last : ∀ (i : Nat) (ws : List Tok), i = s.size → lx s i = .ok ws → (jn ws).size ≤ 2 * (s.size - i) + 1 ∧ (∀ x ∈ ws, At s x) ∧ ws.length ≤ s.size - i + 1 ∧
      (∀ (u : ByteArray) (p : Nat), (∀ k, k < (jn ws).size → bt u (p + k) = bt (jn ws) k) → u.size = p + (jn ws).size → ∃ m, lx u (gp false u p) = .ok m ∧ Sm ws m) := by
    intro i ws hi h
    rw [lx_end (by omega)] at h
    cases h
    have hj : jn [fin s] = tab := by rw [jn_one]; exact empty_append _
    rw [hj, tab_size]
    refine ⟨by omega, fun x hx => ?_, by simp, fun u p hb hs => ?_⟩
    · simp at hx; subst hx; exact fin_at s
    · have h9 : bt u p = 9 := hb 0 (by omega)
      refine ⟨[fin u], ?_, ⟨⟨rfl, rfl, rfl⟩, trivial⟩⟩
      rw [gp_sp (by omega) (by omega) (by omega), gp_end (by omega), lx_end (by omega)]
  intro n
  induction n with
  | zero => intro i ws hn hi h; exact last i ws (by omega) h
  | succ n ih =>
    intro i ws hn hi h
    by_cases hlt : i < s.size
    · cases hx : wd s i with
      | none => rw [lx_bad hlt hx] at h; cases h
      | some x =>
        obtain ⟨xa, x1, x2, x3, _⟩ := wd_facts hlt hx
        rw [lx_word hlt hx] at h
        obtain ⟨r, hr, rfl⟩ := pre_ok h
        have hge := gp_ge false s (i + x.t.size)
        obtain ⟨j1, j2, j3, j4⟩ := ih _ r (by omega) (gp_le (by omega)) hr
        have hsz : (jn ([x] ++ r)).size = x.t.size + 1 + (jn r).size := jn_cons_size x r
        refine ⟨by omega, fun y hy => ?_, by simp; omega, fun u p hb hs => ?_⟩
        · rcases List.mem_cons.1 hy with rfl | hy
          · exact ⟨by omega, by rw [xa]; exact x3⟩
          · exact j2 y hy
        · have hjb : ∀ k, bt (jn ([x] ++ r)) k = if k < x.t.size then bt x.t k else if k < x.t.size + 1 then 9 else bt (jn r) (k - (x.t.size + 1)) := fun k => by
            show bt ((x.t ++ tab) ++ jn r) k = _
            rw [bt_append, bt_append, size_append, tab_size]
            by_cases g1 : k < x.t.size
            · rw [if_pos (by omega), if_pos g1, if_pos g1]
            · by_cases g2 : k < x.t.size + 1
              · rw [if_pos g2, if_neg g1, if_neg g1, if_pos g2, show k - x.t.size = 0 by omega]; rfl
              · rw [if_neg g2, if_neg g1, if_neg g2]
          have h9 : bt u (p + x.t.size) = 9 := by
            rw [hb _ (by omega), hjb, if_neg (by omega), if_pos (by omega)]
          obtain ⟨w1, w2⟩ := wd_again (u := u) (p := p) hlt hx (fun k hk => by rw [hb k (by omega), hjb, if_pos hk]) h9
          have hpu : p < u.size := by omega
          rw [w2, lx_word hpu w1]
          have hg : gp false u (p + x.t.size) = gp false u (p + x.t.size + 1) := gp_sp (by omega) (by omega) (by omega)
          obtain ⟨m, m1, m2⟩ := j4 u (p + x.t.size + 1) (fun k hk => by
            rw [show p + x.t.size + 1 + k = p + (x.t.size + 1 + k) by omega, hb _ (by omega), hjb, if_neg (by omega), if_neg (by omega)]
            congr 1; omega) (by omega)
          show ∃ m, pre _ (lx u (gp false u (p + x.t.size))) = .ok m ∧ Sm ([x] ++ r) m
          rw [hg, m1]
          exact ⟨_, rfl, ⟨rfl, rfl, rfl⟩, m2⟩
    · exact last i ws (by omega) h

/-- Words with a tab behind each are the same words. -/
theorem words_join {s : ByteArray} {ws : List Tok} (h : words s = .ok ws) :
    (jn ws).size ≤ 2 * s.size + 1 ∧ (∀ x ∈ ws, At s x) ∧ ws.length ≤ s.size + 1 ∧ ∃ m, words (jn ws) = .ok m ∧ Sm ws m := by
  have hg := gp_le (b := false) (Nat.zero_le s.size)
  obtain ⟨h1, h2, h3, h4⟩ := lx_facts s _ _ ws (Nat.le_refl _) hg h
  exact ⟨by omega, h2, by omega, h4 (jn ws) 0 (fun k _ => by rw [Nat.zero_add]) (by omega)⟩
end Go.Proofs.Ytgjhonphnecdhaa.Lx
