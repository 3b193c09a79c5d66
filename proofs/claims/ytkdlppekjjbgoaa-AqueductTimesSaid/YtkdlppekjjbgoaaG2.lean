/- The path of gaugings to a stretch (mathematics). -/
import Derived.Test.YtkdlppekjjbgoaaG1

set_option linter.unusedSimpArgs false

set_option linter.unusedVariables false

namespace Go.Proofs.Ytkdlppekjjbgoaa

/-- the points that are gauged if the thief taps stretch s of those from f to t -/
def pL (D : Duct) (s : Nat) : Nat → Nat → Nat → List Nat
  | 0, _, _ => []
  | n + 1, f, t => if t ≤ f + 1 then [] else (NX D f t).toNat :: (if s < (NX D f t).toNat then pL D s n f (NX D f t).toNat else pL D s n (NX D f t).toNat t)
theorem pL_one {D : Duct} {s n f t : Nat} (h : t ≤ f + 1) : pL D s n f t = [] := by
  cases n with
  | zero => rfl
  | succ n => unfold pL; rw [if_pos h]
theorem NX_in {D : Duct} {f t : Nat} (h : f + 1 < t) : ∃ p : Nat, NX D f t = (p : Int) ∧ f < p ∧ p < t := by
  obtain ⟨p, h1, h2, h3, _⟩ := W_spec (D := D) h
  exact ⟨p, h3, h1, h2⟩
theorem pL_step {D : Duct} {s n f t p : Nat} (h : f + 1 < t) (hp : NX D f t = (p : Int)) : pL D s (n + 1) f t = p :: (if s < p then pL D s n f p else pL D s n p t) := by
  show (if t ≤ f + 1 then _ else _) = _
  rw [if_neg (by omega), hp]; rfl
theorem pL_fuel {D : Duct} {s : Nat} : ∀ {n m f t : Nat}, t - f ≤ n → t - f ≤ m → pL D s n f t = pL D s m f t
  | 0, m, f, t, h, _ => by rw [pL_one (by omega), pL_one (by omega)]
  | n + 1, 0, f, t, _, h => by rw [pL_one (by omega), pL_one (by omega)]
  | n + 1, m + 1, f, t, h1, h2 => by
    by_cases h : f + 1 < t
    · obtain ⟨p, hp, p1, p2⟩ := NX_in (D := D) h
      rw [pL_step h hp, pL_step h hp, pL_fuel (n := n) (m := m) (f := f) (t := p) (by omega) (by omega), pL_fuel (n := n) (m := m) (f := p) (t := t) (by omega) (by omega)]
    · rw [pL_one (by omega), pL_one (by omega)]
theorem pL_in {D : Duct} {s : Nat} : ∀ {n f t x : Nat}, x ∈ pL D s n f t → f < x ∧ x < t
  | 0, f, t, x, h => by cases h
  | n + 1, f, t, x, h => by
    by_cases h1 : f + 1 < t
    · obtain ⟨p, hp, p1, p2⟩ := NX_in (D := D) h1
      rw [pL_step h1 hp] at h
      rcases List.mem_cons.1 h with rfl | h
      · exact ⟨p1, p2⟩
      · split at h
        · have := pL_in h; omega
        · have := pL_in h; omega
    · rw [pL_one (by omega)] at h; cases h
theorem pL_len {D : Duct} {s : Nat} : ∀ {n f t : Nat}, (pL D s n f t).length ≤ t - f - 1
  | 0, f, t => Nat.zero_le _
  | n + 1, f, t => by
    by_cases h1 : f + 1 < t
    · obtain ⟨p, hp, p1, p2⟩ := NX_in (D := D) h1
      rw [pL_step h1 hp]
      have a := pL_len (D := D) (s := s) (n := n) (f := f) (t := p)
      have b := pL_len (D := D) (s := s) (n := n) (f := p) (t := t)
      show (if s < p then _ else _ : List Nat).length + 1 ≤ _
      split <;> omega
    · rw [pL_one (by omega)]; exact Nat.zero_le _
theorem pL_nodup {D : Duct} {s : Nat} : ∀ {n f t : Nat}, (pL D s n f t).Nodup
  | 0, f, t => List.nodup_nil
  | n + 1, f, t => by
    by_cases h1 : f + 1 < t
    · obtain ⟨p, hp, p1, p2⟩ := NX_in (D := D) h1
      rw [pL_step h1 hp, List.nodup_cons]
      split
      · exact ⟨fun h => by have := pL_in h; omega, pL_nodup⟩
      · exact ⟨fun h => by have := pL_in h; omega, pL_nodup⟩
    · rw [pL_one (by omega)]; exact List.nodup_nil
theorem pL_has {D : Duct} {s : Nat} : ∀ {n f t : Nat}, t - f ≤ n → f ≤ s → s < t → (s = f ∨ s ∈ pL D s n f t) ∧ (s + 1 = t ∨ s + 1 ∈ pL D s n f t)
  | 0, f, t, h, h1, h2 => absurd h (by omega)
  | n + 1, f, t, h, h1, h2 => by
    by_cases h3 : f + 1 < t
    · obtain ⟨p, hp, p1, p2⟩ := NX_in (D := D) h3
      rw [pL_step h3 hp]
      by_cases hs : s < p
      · rw [if_pos hs]
        obtain ⟨a, b⟩ := pL_has (D := D) (s := s) (n := n) (f := f) (t := p) (by omega) h1 hs
        exact ⟨a.imp id (List.mem_cons_of_mem _), Or.inr (by rcases b with b | b; · rw [b]; exact List.mem_cons_self
                                                             · exact List.mem_cons_of_mem _ b)⟩
      · rw [if_neg hs]
        obtain ⟨a, b⟩ := pL_has (D := D) (s := s) (n := n) (f := p) (t := t) (by omega) (by omega) h2
        exact ⟨Or.inr (by rcases a with a | a; · rw [a]; exact List.mem_cons_self
                          · exact List.mem_cons_of_mem _ a), b.imp id (List.mem_cons_of_mem _)⟩
    · exact ⟨Or.inl (by omega), Or.inl (by omega)⟩
/-- what points cost together -/
def csL (D : Duct) : List Nat → Int
  | [] => 0
  | p :: l => D.co p + csL D l
theorem pL_cost {D : Duct} (hc : ∀ k, k < D.n → 0 ≤ D.co k ∧ D.co k ≤ 20) {s : Nat} : ∀ {n f t : Nat}, t - f ≤ n → t < D.n → 0 ≤ csL D (pL D s n f t) ∧ csL D (pL D s n f t) ≤ WW D f t
  | 0, f, t, h, ht => by rw [pL_one (by omega)]; exact ⟨Int.le_refl _, W_nn hc ht⟩
  | n + 1, f, t, h, ht => by
    by_cases h1 : f + 1 < t
    · obtain ⟨p, p1, p2, p3, p4, _⟩ := W_spec (D := D) h1
      rw [pL_step h1 p3, p4]
      have a := pL_cost hc (s := s) (n := n) (f := f) (t := p) (by omega) (by omega)
      have b := pL_cost hc (s := s) (n := n) (f := p) (t := t) (by omega) ht
      have c := hc p (by omega)
      show 0 ≤ D.co p + csL D (if s < p then _ else _) ∧ D.co p + csL D (if s < p then _ else _) ≤ _
      unfold vW
      split <;> omega
    · rw [pL_one (by omega)]; exact ⟨Int.le_refl _, W_nn hc ht⟩
/-- for some stretch as much is paid as at the worst -/
theorem pL_worst {D : Duct} : ∀ {n f t : Nat}, t - f ≤ n → f < t → ∃ s, f ≤ s ∧ s < t ∧ csL D (pL D s n f t) = WW D f t
  | 0, f, t, h, h' => absurd h (by omega)
  | n + 1, f, t, h, h' => by
    by_cases h1 : f + 1 < t
    · obtain ⟨p, p1, p2, p3, p4, _⟩ := W_spec (D := D) h1
      obtain ⟨a, a1, a2, a3⟩ := pL_worst (D := D) (n := n) (f := f) (t := p) (by omega) p1
      obtain ⟨b, b1, b2, b3⟩ := pL_worst (D := D) (n := n) (f := p) (t := t) (by omega) p2
      rcases Int.le_total (WW D f p) (WW D p t) with c | c
      · refine ⟨b, by omega, b2, ?_⟩
        rw [pL_step h1 p3, p4, if_neg (by omega)]
        show D.co p + csL D _ = D.co p + max _ _
        rw [b3, Int.max_eq_right c]
      · refine ⟨a, a1, by omega, ?_⟩
        rw [pL_step h1 p3, p4, if_pos a2]
        show D.co p + csL D _ = D.co p + max _ _
        rw [a3, Int.max_eq_left c]
    · refine ⟨f, Nat.le_refl _, h', ?_⟩
      rw [pL_one (by omega), W_one (by omega)]; rfl
theorem csL_app {D : Duct} : ∀ {l k : List Nat}, csL D (l ++ k) = csL D l + csL D k
  | [], k => by show _ = 0 + _; rw [Int.zero_add]; rfl
  | p :: l, k => by show D.co p + csL D (l ++ k) = D.co p + csL D l + csL D k; rw [csL_app]; omega
/-- the path to a stretch of the whole line -/
def path (D : Duct) (s : Nat) : List Nat := pL D s D.m 0 D.m
def paid (D : Duct) (s : Nat) : Int := csL D (path D s)
/-- the numbers of a list -/
def atL (l : List Nat) (i : Nat) : Int := ((l.getD i 0 : Nat) : Int)
theorem atL_mem {l : List Nat} {i : Nat} (h : i < l.length) : l.getD i 0 ∈ l := by
  rw [List.getD_eq_getElem?_getD, List.getElem?_eq_getElem h]; exact List.getElem_mem h
theorem csL_take {D : Duct} {l : List Nat} {i : Nat} (h : i < l.length) : csL D (l.take (i + 1)) = csL D (l.take i) + D.co (l.getD i 0) := by
  rw [List.take_add_one, csL_app, List.getD_eq_getElem?_getD, List.getElem?_eq_getElem h]
  show _ + (_ + 0) = _
  rw [Int.add_zero]; rfl
theorem csL_bd {D : Duct} {N : Nat} (hc : ∀ k, k < N → 0 ≤ D.co k ∧ D.co k ≤ 20) : ∀ {l : List Nat}, (∀ x, x ∈ l → x < N) → 0 ≤ csL D l ∧ csL D l ≤ 20 * (l.length : Int)
  | [], _ => by show 0 ≤ (0 : Int) ∧ (0 : Int) ≤ _; simp
  | p :: l, h => by
    have a := csL_bd hc (l := l) (fun x hx => h x (List.mem_cons_of_mem _ hx))
    have b := hc p (h p List.mem_cons_self)
    show 0 ≤ D.co p + csL D l ∧ D.co p + csL D l ≤ 20 * ((l.length + 1 : Nat) : Int)
    omega
end Go.Proofs.Ytkdlppekjjbgoaa
