/- Rosters of hours: the specification's lists of hours, in memory. -/
import Derived.Test.YtegkgfiaegpihaaK4

import Derived.Test.YtegkgfiaegpihaaM12

set_option linter.unusedSimpArgs false

set_option linter.unusedVariables false

namespace Go.Proofs.Ytegkgfiaegpihaa

open Go.RowKit

theorem infoL : (Try.prog.info? 22).map (fun i => (i.zero, i.size, i.bytes)) = some (some (.slice none 0 0), 1, 24) := by kernel_rfl
/-- a value is a list of numbers, whose block is not below lo -/
def LRow (w : World) (lo : Nat) (l : List Int) (v : Value) : Prop := ∃ q c, v = .slice q l.length c ∧ (0 < l.length → ∃ g, q = some ⟨g, 0, none⟩ ∧ lo ≤ g ∧ g < w.heap.size ∧ NumAt w g 0 l.length (asF l))
theorem LRow.bel {w w' : World} {lo : Nat} {l : List Int} {v : Value} (h : LRow w lo l v) (hb : Below w.heap.size w w') : LRow w' lo l v := by
  obtain ⟨q, c, e, h⟩ := h
  refine ⟨q, c, e, fun h0 => ?_⟩
  obtain ⟨g, e2, a, b, n⟩ := h h0
  exact ⟨g, e2, a, Nat.lt_of_lt_of_le b hb.size, n.below hb b⟩
theorem LRow.mono {w : World} {lo lo' : Nat} {l : List Int} {v : Value} (h : LRow w lo l v) (hl : lo' ≤ lo) : LRow w lo' l v := by
  obtain ⟨q, c, e, h⟩ := h
  refine ⟨q, c, e, fun h0 => ?_⟩
  obtain ⟨g, e2, a, b, n⟩ := h h0
  exact ⟨g, e2, Nat.le_trans hl a, b, n⟩
theorem LRow.grown {w w' : World} {lo : Nat} {l : List Int} {v : Value} {row : Option Nat} (h : LRow w lo l v) (hg : w.grownBy w' row) (hne : 0 < l.length → ∀ g, v.ownBlock = some g → some g ≠ row) : LRow w' lo l v := by
  obtain ⟨q, c, e, h⟩ := h
  refine ⟨q, c, e, fun h0 => ?_⟩
  obtain ⟨g, e2, a, b, n⟩ := h h0
  have hb := hg.block g b (hne h0 g (by rw [e, e2]; rfl))
  exact ⟨g, e2, a, Nat.lt_of_lt_of_le b hg.size, fun k hk => (World.cell?_of_block (a := ⟨g, 0 + k, none⟩) hb).trans (n k hk)⟩
theorem LRow.num {w : World} {lo : Nat} {l : List Int} {v : Value} (h : LRow w lo l v) : ∃ q c, v = .slice q l.length c ∧ NumIn w w.heap.size l.length (asF l) q := by
  obtain ⟨q, c, e, h⟩ := h
  refine ⟨q, c, e, fun h0 => ?_⟩
  obtain ⟨g, e2, a, b, n⟩ := h h0
  exact ⟨g, 0, e2, b, n⟩
/-- lists of numbers lie at an address -/
def LstIn (w : World) (lo : Nat) (L : List (List Int)) (p : Option Addr) : Prop := 0 < L.length → ∃ b o, p = some ⟨b, o, none⟩ ∧ b < w.heap.size ∧ ∀ i, i < L.length → ∃ v, w.cell? ⟨b, o + i, none⟩ = some v ∧ LRow w lo (L.getD i []) v
theorem LstIn.bel {w w' : World} {lo : Nat} {L : List (List Int)} {p : Option Addr} (h : LstIn w lo L p) (hb : Below w.heap.size w w') : LstIn w' lo L p := fun h0 => by
  obtain ⟨b, o, e, hl, hc⟩ := h h0
  refine ⟨b, o, e, Nat.lt_of_lt_of_le hl hb.size, fun i hi => ?_⟩
  obtain ⟨v, hv, hr⟩ := hc i hi
  exact ⟨v, (hb.cell (p := ⟨b, o + i, none⟩) hl).trans hv, hr.bel hb⟩
theorem LstIn.mono {w : World} {lo lo' : Nat} {L : List (List Int)} {p : Option Addr} (h : LstIn w lo L p) (hl : lo' ≤ lo) : LstIn w lo' L p := fun h0 => by
  obtain ⟨b, o, e, hb, hc⟩ := h h0
  exact ⟨b, o, e, hb, fun i hi => by obtain ⟨v, hv, hr⟩ := hc i hi; exact ⟨v, hv, hr.mono hl⟩⟩
/-- an owned row of lists -/
structure OutS (base lo : Nat) (L : List (List Int)) (v : Value) (w : World) : Prop where
  o : ∃ xs, w.ownsRow base 22 1 v L.length xs ∧ ∀ i, i < L.length → ∃ u, xs[i]? = some u ∧ LRow w lo (L.getD i []) u ∧ (0 < (L.getD i []).length → ∀ g, u.ownBlock = some g → some g ≠ v.ownBlock)
theorem OutS.nil (base lo : Nat) (w : World) : OutS base lo [] (.slice none 0 0) w := ⟨[], World.ownsRow_nil _ _ _ 1, fun i hi => absurd hi (Nat.not_lt_zero _)⟩
theorem OutS.bel {base lo : Nat} {L : List (List Int)} {v : Value} {w w' : World} (h : OutS base lo L v w) (hb : Below w.heap.size w w') : OutS base lo L v w' := by
  obtain ⟨xs, ho, hx⟩ := h.o
  exact ⟨xs, own_below ho hb, fun i hi => by obtain ⟨u, a, b, c⟩ := hx i hi; exact ⟨u, a, b.bel hb, c⟩⟩
theorem OutS.lst {base lo : Nat} {L : List (List Int)} {v : Value} {w : World} (h : OutS base lo L v w) : ∃ p c, v = .slice p L.length c ∧ LstIn w lo L p := by
  obtain ⟨xs, ho, hx⟩ := h.o
  obtain ⟨p, c, rfl, hf⟩ := own_form ho
  refine ⟨p, c, rfl, fun h0 => ?_⟩
  obtain ⟨g, e, _, hl, hc, _⟩ := hf h0
  refine ⟨g, 0, e, hl, fun i hi => ?_⟩
  obtain ⟨u, a, b, _⟩ := hx i hi
  exact ⟨u, by rw [Nat.zero_add, hc i (by omega)]; exact a, b⟩
theorem OutS.own {base lo : Nat} {L : List (List Int)} {v : Value} {w : World} (h : OutS base lo L v w) : ∀ g, v.ownBlock = some g → base ≤ g ∧ g < w.heap.size := by
  obtain ⟨xs, ho, _⟩ := h.o
  exact ho.lt
theorem list_of {α : Type} {P : Nat → α → Prop} : ∀ (n : Nat), (∀ i, i < n → ∃ x, P i x) → ∃ l : List α, l.length = n ∧ ∀ i, i < n → ∃ x, l[i]? = some x ∧ P i x
  | 0, _ => ⟨[], rfl, fun i h => absurd h (Nat.not_lt_zero _)⟩
  | n + 1, h => by
    obtain ⟨l, hl, hp⟩ := list_of n (fun i hi => h i (by omega))
    obtain ⟨x, hx⟩ := h n (by omega)
    refine ⟨l ++ [x], by simp [hl], fun i hi => ?_⟩
    rcases Nat.lt_succ_iff_lt_or_eq.1 hi with h1 | rfl
    · obtain ⟨y, a, b⟩ := hp i h1
      exact ⟨y, by rw [List.getElem?_append_left (by omega)]; exact a, b⟩
    · exact ⟨x, by rw [List.getElem?_append_right (by omega), hl]; simp, hx⟩
/-- lists are appended to an owned row of lists -/
theorem OutS.app {base lo lo2 : Nat} {L M : List (List Int)} {v v' : Value} {w w' : World} {xs us : List Value} (hb0 : lo ≤ lo2) (ho : w.ownsRow base 22 1 v L.length xs) (hx : ∀ i, i < L.length → ∃ u, xs[i]? = some u ∧ LRow w lo (L.getD i []) u ∧ (0 < (L.getD i []).length → ∀ g, u.ownBlock = some g → some g ≠ v.ownBlock))
    (hul : us.length = M.length) (hu : ∀ i, i < M.length → ∃ u, us[i]? = some u ∧ LRow w lo2 (M.getD i []) u ∧ (0 < (M.getD i []).length → ∀ g, u.ownBlock = some g → some g ≠ v.ownBlock))
    (ho' : w'.ownsRow base 22 1 v' (L.length + M.length) (xs ++ us)) (hg : w.grownBy w' v.ownBlock) (hn : ∀ g, v'.ownBlock = some g → v.ownBlock = some g ∨ w.heap.size ≤ g) : OutS base lo (L ++ M) v' w' := by
  have key : ∀ (lo : Nat) (l : List Int) (u : Value), LRow w lo l u → (0 < l.length → ∀ g, u.ownBlock = some g → some g ≠ v.ownBlock) → LRow w' lo l u ∧ (0 < l.length → ∀ g, u.ownBlock = some g → some g ≠ v'.ownBlock) := fun lo l u h1 h2 => by
    refine ⟨h1.grown hg h2, fun h0 g hgu e => ?_⟩
    rcases hn g e.symm with h3 | h3
    · exact h2 h0 g hgu h3.symm
    · obtain ⟨q, c, rfl, h⟩ := h1
      obtain ⟨g2, e2, _, b2, _⟩ := h h0
      rw [e2] at hgu
      have : g2 = g := by simpa [Value.ownBlock] using hgu
      omega
  refine ⟨xs ++ us, by rw [List.length_append]; exact ho', fun i hi => ?_⟩
  rw [List.length_append] at hi
  have hxl : xs.length = L.length := by have := ho.1; omega
  rcases Nat.lt_or_ge i L.length with h1 | h1
  · obtain ⟨u, a, b, c⟩ := hx i h1
    obtain ⟨b', c'⟩ := key _ _ _ b c
    have e : (L ++ M).getD i [] = L.getD i [] := by simp only [List.getD_eq_getElem?_getD]; rw [List.getElem?_append_left h1]
    exact ⟨u, by rw [List.getElem?_append_left (by omega)]; exact a, by rw [e]; exact b', by rw [e]; exact c'⟩
  · obtain ⟨u, a, b, c⟩ := hu (i - L.length) (by omega)
    obtain ⟨b', c'⟩ := key _ _ _ (b.mono hb0) c
    have e : (L ++ M).getD i [] = M.getD (i - L.length) [] := by simp only [List.getD_eq_getElem?_getD]; rw [List.getElem?_append_right (by omega)]
    exact ⟨u, by rw [List.getElem?_append_right (by omega), hxl]; exact a, by rw [e]; exact b', by rw [e]; exact c'⟩
/-- numbers as cells -/
def intsV (l : List Int) : List Value := l.map (.int .i64)
theorem intsV_len (l : List Int) : (intsV l).length = l.length := by simp [intsV]
theorem intsV_one {l : List Int} : ∀ u ∈ intsV l, u.oneCell' = true := fun u h => by
  simp only [intsV, List.mem_map] at h
  obtain ⟨x, _, rfl⟩ := h; rfl
theorem intsV_at {l : List Int} {k : Nat} (hk : k < l.length) : (intsV l)[k]? = some (.int .i64 (asF l k)) := by
  simp [intsV, asF, List.getD_eq_getElem?_getD, hk]
theorem intsV_src {w : World} {b o : Nat} {l : List Int} (h : NumAt w b o l.length (asF l)) : ∀ j u, (intsV l)[j]? = some u → w.cell? ((⟨b, o, none⟩ : Addr).add j) = some u := fun j u hu => by
  have hj : j < l.length := by have := (List.getElem?_eq_some_iff.1 hu).1; rwa [intsV_len] at this
  rw [intsV_at hj] at hu
  rw [add_at'', ← hu]; exact h j hj
theorem intsV_own {w : World} {base : Nat} {v : Value} {l : List Int} (h : w.ownsRow base 3 1 v l.length (intsV l)) : LRow w base l v := by
  obtain ⟨p, c, rfl, hf⟩ := own_form h
  refine ⟨p, c, rfl, fun h0 => ?_⟩
  obtain ⟨g, e, hb, hl, hc, _⟩ := hf h0
  exact ⟨g, e, hb, hl, fun k hk => by rw [Nat.zero_add, hc k (by omega)]; exact intsV_at hk⟩
theorem wdP_le {D : Ro} (hD : OkP D) : ∀ (j s : Nat), s + j ≤ D.m → 1 ≤ wdP D j s ∧ wdP D j s ≤ 8 ^ j
  | 0, _, _ => by simp [wdP]
  | j + 1, s, h => by
    have ih := wdP_le hD j (s + 1) (by omega)
    have hs := hD.st s (by omega)
    have hn := hD.n
    have hw : 1 ≤ wid D s ∧ wid D s ≤ 8 := by unfold wid; have := hs.fr; have := hs.to; have := hs.ft; omega
    simp only [wdP]
    refine ⟨Nat.le_trans ih.1 (Nat.le_mul_of_pos_left _ hw.1), ?_⟩
    rw [Nat.pow_succ, Nat.mul_comm (8 ^ j) 8]
    exact Nat.mul_le_mul hw.2 ih.2
theorem lstK_le {D : Ro} (hD : OkP D) {j s k : Nat} {fs : List Int} (h : s + (j + 1) ≤ D.m) (hk : k ≤ wid D s) : (lstK D j s fs k).length ≤ 262144 := by
  rw [lstK_len (fun fs => lsts_len j (s + 1) fs)]
  have h1 := wdP_le hD (j + 1) s h
  have h2 : k * wdP D j (s + 1) ≤ wdP D (j + 1) s := Nat.mul_le_mul_right _ hk
  have h3 : 8 ^ (j + 1) ≤ 8 ^ 6 := Nat.pow_le_pow_right (by omega) (by have := hD.m; omega)
  have h4 : (8 : Nat) ^ 6 = 262144 := by decide
  omega
theorem lsts_le {D : Ro} (hD : OkP D) {j s : Nat} {fs : List Int} (h : s + j ≤ D.m) : 1 ≤ (lsts D j s fs).length ∧ (lsts D j s fs).length ≤ 262144 := by
  rw [lsts_len]
  have h1 := wdP_le hD j s h
  have h3 : 8 ^ j ≤ 8 ^ 6 := Nat.pow_le_pow_right (by omega) (by have := hD.m; omega)
  have h4 : (8 : Nat) ^ 6 = 262144 := by decide
  omega
/-- what lists leaves -/
def ListsOk (D : Ro) (p q : Option Addr) (c d j : Nat) : Prop := ∀ (s : Nat) (fs : List Int) (lp : Option Addr) (lc lo : Nat) (w : World), fs.length = s → s + j = D.m → lo ≤ w.heap.size → RoIn w w.heap.size D p q → LRow w lo fs (.slice lp s lc) →
    Calls Try.prog 106 #[.agg #[.slice p D.n c, .slice q D.m d], .slice lp s lc] w fun e w' => ∃ y c', e = .returned (.slice y (lsts D j s fs).length c') ∧ Below w.heap.size w w' ∧ LstIn w' lo (lsts D j s fs) y
set_option maxRecDepth 100000 in
set_option maxHeartbeats 4000000 in
theorem lists_zero (D : Ro) (p q : Option Addr) (c d : Nat) (hD : OkP D) : ListsOk D p q c d 0 := by
  intro s fs lp lc lo w hfs hs hlo hI hf
  obtain ⟨w1, x1, hw1, hb1, hz1, F0, F1, _⟩ := box_ro w p q D.n D.m c d
  have HB := Lib.hid hb1
  have hsm : s = D.m := by omega
  subst hsm
  have j0 : ((D.m : Int) == (D.m : Int)) = true := by simp
  obtain ⟨g, hg⟩ : ∃ g, x1.v.heap.size = g := ⟨_, rfl⟩
  obtain ⟨x2, hx2, hb2, hc2, hl2⟩ : ∃ z : Ext w1, x1.v.alloc (Obj.cells #[.slice lp D.m lc] 22) = z.v ∧ Below x1.v.heap.size x1.v z.v ∧ z.v.cell? ⟨g, 0, none⟩ = some (.slice lp D.m lc) ∧ g < z.v.heap.size :=
    ⟨⟨_, bA x1.b _⟩, rfl, bA (Below.refl _ _) _, by rw [← hg]; clear hg; go_simp, by rw [← hg]; simp⟩
  have HF := Lib.hid ((hf.bel (bT hb1 x1.b)).bel hb2)
  have HC2 := Lib.hid hc2; have HL2 := Lib.hid hl2
  clear hb1 hz1 hI hf hlo hb2 hc2 hl2
  go_enter Try.func106, Try.ntmps106
  go_wp2
  try rw [hg]
  go_ret
  refine ⟨_, _, rfl, bT HB.out x2.b, fun _ => ⟨g, 0, rfl, HL2.out, fun i hi => ?_⟩⟩
  have hi0 : i = 0 := by simp [lsts] at hi; exact hi
  subst hi0
  exact ⟨_, HC2.out, HF.out⟩
end Go.Proofs.Ytegkgfiaegpihaa
