/- Rosters of hours: all lists of hours, street by street, and the first one of those that cost the least (mathematics alone). -/
import Derived.Test.YtegkgfiaegpihaaM10

set_option linter.unusedSimpArgs false

set_option linter.unusedVariables false

namespace Go.Proofs.Ytegkgfiaegpihaa

open Go.RowKit

def asF (l : List Int) : Nat → Int := fun i => l.getD i 0
/-- all lists of hours that begin with some, in their order -/
def lsts (D : Ro) : Nat → Nat → List Int → List (List Int)
  | 0, _, fs => [fs]
  | j + 1, s, fs => (List.range (wid D s)).flatMap fun (i : Nat) => lsts D j (s + 1) (fs ++ [D.fr s + (i : Int)])
/-- those of the first k hours of street s -/
def lstK (D : Ro) (j s : Nat) (fs : List Int) (k : Nat) : List (List Int) := (List.range k).flatMap fun (i : Nat) => lsts D j (s + 1) (fs ++ [D.fr s + (i : Int)])
theorem lstK_succ {D : Ro} {j s k : Nat} {fs : List Int} : lstK D j s fs (k + 1) = lstK D j s fs k ++ lsts D j (s + 1) (fs ++ [D.fr s + (k : Int)]) := by
  unfold lstK; rw [List.range_succ, List.flatMap_append]; simp
theorem lsts_succ {D : Ro} {j s : Nat} {fs : List Int} : lsts D (j + 1) s fs = lstK D j s fs (wid D s) := rfl
theorem asF_lt {fs : List Int} {x : Int} {k : Nat} (h : k < fs.length) : asF (fs ++ [x]) k = asF fs k := by
  unfold asF; simp only [List.getD_eq_getElem?_getD]; rw [List.getElem?_append_left h]
theorem asF_eq {fs : List Int} {x : Int} : asF (fs ++ [x]) fs.length = x := by unfold asF; simp
/-- what each of the lists is -/
theorem lsts_mem {D : Ro} : ∀ {j s : Nat} {fs l : List Int}, fs.length = s → l ∈ lsts D j s fs → l.length = s + j ∧ (∀ k, k < s → asF l k = asF fs k) ∧ ∀ k, s ≤ k → k < s + j → D.fr k ≤ asF l k ∧ asF l k < D.fr k + wid D k
  | 0, s, fs, l, h, hl => by
    simp only [lsts, List.mem_singleton] at hl
    subst hl
    exact ⟨h, fun _ _ => rfl, fun k h1 h2 => by omega⟩
  | j + 1, s, fs, l, h, hl => by
    simp only [lsts, List.mem_flatMap, List.mem_range] at hl
    obtain ⟨i, hi, hl⟩ := hl
    obtain ⟨a, b, c⟩ := lsts_mem (s := s + 1) (by simp [h]) hl
    refine ⟨by omega, fun k hk => ?_, fun k h1 h2 => ?_⟩
    · rw [b k (by omega), asF_lt (by omega)]
    · rcases Nat.lt_or_ge s k with h3 | h3
      · exact c k h3 (by omega)
      · have e : k = s := by omega
        subst e
        rw [b k (by omega)]
        have := asF_eq (fs := fs) (x := D.fr k + (i : Int))
        rw [h] at this; rw [this]; omega
theorem lsts_all {D : Ro} : ∀ {j s : Nat} {fs l : List Int}, fs.length = s → l.length = s + j → (∀ k, k < s → asF l k = asF fs k) → (∀ k, s ≤ k → k < s + j → D.fr k ≤ asF l k ∧ asF l k < D.fr k + wid D k) → l ∈ lsts D j s fs
  | 0, s, fs, l, h, hl, hp, _ => by
    simp only [lsts, List.mem_singleton]
    refine List.ext_getElem (by omega) fun k h1 h2 => ?_
    have := hp k (by omega)
    unfold asF at this
    simp only [List.getD_eq_getElem?_getD] at this
    rw [List.getElem?_eq_getElem h1, List.getElem?_eq_getElem h2] at this
    simp only [Option.getD_some] at this
    exact this
  | j + 1, s, fs, l, h, hl, hp, hr => by
    simp only [lsts, List.mem_flatMap, List.mem_range]
    have h0 := hr s (Nat.le_refl _) (by omega)
    refine ⟨(asF l s - D.fr s).toNat, by omega, lsts_all (s := s + 1) (by simp [h]) (by omega) (fun k hk => ?_) fun k h1 h2 => hr k (by omega) (by omega)⟩
    rcases Nat.lt_or_ge k s with h3 | h3
    · rw [hp k h3, asF_lt (by omega)]
    · have e : k = s := by omega
      subst e
      have := asF_eq (fs := fs) (x := D.fr k + ((asF l k - D.fr k).toNat : Int))
      rw [h] at this; rw [this]; omega
/-- how many lists there are -/
def wdP (D : Ro) : Nat → Nat → Nat
  | 0, _ => 1
  | j + 1, s => wid D s * wdP D j (s + 1)
theorem lstK_len {D : Ro} {j s : Nat} (ih : ∀ fs, (lsts D j (s + 1) fs).length = wdP D j (s + 1)) (fs : List Int) : ∀ k, (lstK D j s fs k).length = k * wdP D j (s + 1)
  | 0 => by simp [lstK]
  | k + 1 => by rw [lstK_succ, List.length_append, lstK_len ih fs k, ih, Nat.succ_mul]
theorem lsts_len {D : Ro} : ∀ (j s : Nat) (fs : List Int), (lsts D j s fs).length = wdP D j s
  | 0, _, _ => rfl
  | j + 1, s, fs => by rw [lsts_succ, lstK_len (fun fs => lsts_len j (s + 1) fs)]; rfl
theorem wdP_prod {D : Ro} (hD : OkP D) : ∀ (j s : Nat), s + j ≤ D.m → prodF D s * (wdP D j s : Int) = prodF D (s + j)
  | 0, s, _ => by simp [wdP]
  | j + 1, s, h => by
    have ih := wdP_prod hD j (s + 1) (by omega)
    have hs := (hD.st s (by omega)).ft
    have e : (wid D s : Int) = D.to s - D.fr s + 1 := by unfold wid; omega
    rw [show s + (j + 1) = s + 1 + j by omega, ← ih]
    simp only [wdP, prodF, Int.natCast_mul, e]
    rw [Int.mul_assoc]
/-- the first of those that cost the least -/
def btr (D : Ro) (b : Option (List Int)) (x : List Int) : Option (List Int) := match b with
  | none => some x
  | some y => if costF D (asF x) D.m < costF D (asF y) D.m then some x else some y
def flB (D : Ro) (l : List (List Int)) : Option (List Int) := l.foldl (btr D) none
def btO (D : Ro) (a b : Option (List Int)) : Option (List Int) := match b with
  | none => a
  | some y => btr D a y
theorem foldl_btO {D : Ro} : ∀ {l : List (List Int)} {a : Option (List Int)}, l.foldl (btr D) a = btO D a (flB D l)
  | [], a => by simp [flB, btO]
  | x :: l, a => by
    have h1 := foldl_btO (D := D) (l := l) (a := btr D a x)
    have h2 := foldl_btO (D := D) (l := l) (a := btr D none x)
    have e : flB D (x :: l) = l.foldl (btr D) (btr D none x) := rfl
    rw [e, h2, List.foldl_cons, h1]
    generalize flB D l = q
    cases q with
    | none => rfl
    | some y =>
      simp only [btO]
      cases a with
      | none =>
        show btr D (btr D none x) y = btO D none (btr D (btr D none x) y)
        cases hq : btr D (btr D none x) y with
        | none => rfl
        | some u => rfl
      | some z =>
        have e1 : btr D none x = some x := rfl
        rw [e1]
        have d1 : btr D (some z) x = if costF D (asF x) D.m < costF D (asF z) D.m then some x else some z := rfl
        have d2 : btr D (some x) y = if costF D (asF y) D.m < costF D (asF x) D.m then some y else some x := rfl
        rw [d1, d2]
        by_cases c1 : costF D (asF x) D.m < costF D (asF z) D.m <;> by_cases c2 : costF D (asF y) D.m < costF D (asF x) D.m
        · rw [if_pos c1, if_pos c2]
          have c3 : costF D (asF y) D.m < costF D (asF z) D.m := by omega
          simp only [btr, if_pos c2, if_pos c3]
        · rw [if_pos c1, if_neg c2]; simp only [btr, if_pos c1, if_neg c2]
        · rw [if_neg c1, if_pos c2]
        · rw [if_neg c1, if_neg c2]
          have c3 : ¬ costF D (asF y) D.m < costF D (asF z) D.m := by omega
          simp only [btr, if_neg c1, if_neg c3]
theorem flB_append {D : Ro} (a b : List (List Int)) : flB D (a ++ b) = btO D (flB D a) (flB D b) := by
  unfold flB; rw [List.foldl_append]; exact foldl_btO
theorem flB_none {D : Ro} : ∀ {l : List (List Int)}, flB D l = none ↔ l = []
  | [] => by simp [flB]
  | x :: l => by
    have e : flB D (x :: l) = btO D (some x) (flB D l) := by
      have : flB D (x :: l) = l.foldl (btr D) (some x) := rfl
      rw [this]; exact foldl_btO
    rw [e]
    cases h : flB D l with
    | none => simp [btO]
    | some y => simp only [btO, btr]; split <;> simp
theorem flB_spec {D : Ro} : ∀ {l : List (List Int)} {x : List Int}, flB D l = some x → x ∈ l ∧ ∀ y, y ∈ l → costF D (asF x) D.m ≤ costF D (asF y) D.m
  | [], x, h => by simp [flB] at h
  | z :: l, x, h => by
    have e : flB D (z :: l) = btO D (some z) (flB D l) := by
      have : flB D (z :: l) = l.foldl (btr D) (some z) := rfl
      rw [this]; exact foldl_btO
    rw [e] at h
    cases hl : flB D l with
    | none =>
      rw [hl] at h
      simp only [btO] at h
      cases h
      rw [flB_none] at hl; subst hl
      simp
    | some u =>
      rw [hl] at h
      obtain ⟨h1, h2⟩ := flB_spec hl
      simp only [btO, btr] at h
      split at h
      · rename_i hc
        cases h
        refine ⟨List.mem_cons_of_mem _ h1, fun y hy => ?_⟩
        rcases List.mem_cons.1 hy with rfl | hy
        · omega
        · exact h2 y hy
      · rename_i hc
        cases h
        refine ⟨List.mem_cons_self, fun y hy => ?_⟩
        rcases List.mem_cons.1 hy with rfl | hy
        · exact Int.le_refl _
        · have := h2 y hy; omega
/-- what may be, of a list -/
def okM (D : Ro) (M : Nat → Nat → Bool) (l : List Int) : Bool := isNw D l.length (asF l) && allN (fun k => M k (asF l k).toNat) D.m
/-- the hours of the cheapest way -/
def pth (D : Ro) (P : Pr) : Nat → Nat → (Nat → Int) → List Int
  | 0, _, _ => []
  | j + 1, s, L => (chV D P (j + 1) s L).h :: pth D P j (s + 1) (dec L (chV D P (j + 1) s L).h.toNat)
theorem pth_len {D : Ro} {P : Pr} : ∀ {j s : Nat} {L : Nat → Int}, (pth D P j s L).length = j
  | 0, _, _ => rfl
  | j + 1, _, _ => by simp only [pth, List.length_cons, pth_len]
theorem costF_congr {D : Ro} {f g : Nat → Int} {k : Nat} (h : ∀ i, i < k → f i = g i) : costF D f k = costF D g k := by
  unfold costF; exact sumN_congr fun i hi => by rw [h i hi]
theorem cnt_congr {f g : Nat → Int} {x : Int} : ∀ {k : Nat}, (∀ i, i < k → f i = g i) → cnt f x k = cnt g x k
  | 0, _ => rfl
  | k + 1, h => by simp only [cnt]; rw [cnt_congr (fun i hi => h i (by omega)), h k (by omega)]
theorem newAt_congr {D : Ro} {f g : Nat → Int} {k : Nat} (h : ∀ i, i ≤ k → f i = g i) : newAt D f k = newAt D g k := by
  unfold newAt; rw [h k (Nat.le_refl _), cnt_congr (fun i hi => h i (by omega))]
/-- the first hours may be -/
def preB (D : Ro) (M : Nat → Nat → Bool) (fs : List Int) (s : Nat) : Bool := allN (newAt D (asF fs)) s && allN (fun k => M k (asF fs k).toNat) s
theorem allN_congr {f g : Nat → Bool} : ∀ {k : Nat}, (∀ i, i < k → f i = g i) → allN f k = allN g k
  | 0, _ => rfl
  | k + 1, h => by simp only [allN]; rw [allN_congr (fun i hi => h i (by omega)), h k (by omega)]
theorem allN_le {f : Nat → Bool} {k n : Nat} (h : allN f n = true) (hk : k ≤ n) : allN f k = true := allN_iff.2 fun i hi => allN_iff.1 h i (by omega)
theorem okM_pre {D : Ro} {M : Nat → Nat → Bool} {l fs : List Int} {s : Nat} (hs : s ≤ D.m) (hp : ∀ k, k < s → asF l k = asF fs k) (h : okM D M l = true) : preB D M fs s = true := by
  simp only [okM, isNw, Bool.and_eq_true] at h
  simp only [preB, Bool.and_eq_true]
  refine ⟨?_, ?_⟩
  · rw [allN_congr (g := newAt D (asF l)) (fun i hi => newAt_congr fun u hu => (hp u (by omega)).symm)]; exact allN_le h.1.2 hs
  · rw [allN_congr (g := fun k => M k (asF l k).toNat) (fun i hi => by rw [hp i hi])]; exact allN_le h.2 hs
theorem preB_succ {D : Ro} {M : Nat → Nat → Bool} {fs : List Int} {s : Nat} {x : Int} (hl : fs.length = s) (h : preB D M fs s = true) : preB D M (fs ++ [x]) (s + 1) = (within x (D.fr s) (D.to s) && decide ((cnt (asF fs) x s : Int) < D.rm x.toNat) && M s x.toNat) := by
  subst hl
  simp only [preB, allN]
  rw [allN_congr (f := newAt D (asF (fs ++ [x]))) (g := newAt D (asF fs)) (fun i hi => newAt_congr fun u hu => asF_lt (by omega)), allN_congr (f := fun k => M k (asF (fs ++ [x]) k).toNat) (g := fun k => M k (asF fs k).toNat) (fun i hi => by rw [asF_lt hi])]
  simp only [preB, Bool.and_eq_true] at h
  rw [h.1, h.2]
  simp only [Bool.true_and, newAt, asF_eq]
  rw [cnt_congr (f := asF (fs ++ [x])) (g := asF fs) (fun i hi => asF_lt hi)]
/-- the first of the cheapest is the cheapest way -/
theorem flB_way {D : Ro} (hD : OkP D) (M : Nat → Nat → Bool) : ∀ (j s : Nat) (fs : List Int) (L : Nat → Int), fs.length = s → s + j = D.m → preB D M fs s = true → (∀ h : Nat, h < D.n → L h = D.rm h - cnt (asF fs) h s) →
    flB D ((lsts D j s fs).filter (okM D M)) = (if (chV D (prO (prC D) M) j s L).no then none else some (fs ++ pth D (prO (prC D) M) j s L)) ∧
    ((chV D (prO (prC D) M) j s L).no = false → costF D (asF (fs ++ pth D (prO (prC D) M) j s L)) D.m = costF D (asF fs) s + (chV D (prO (prC D) M) j s L).c)
  | 0, s, fs, L, hl, hs, hp, hL => by
    have e : s = D.m := by omega
    subst e
    have hok : okM D M fs = true := by
      simp only [preB, Bool.and_eq_true] at hp
      simp only [okM, isNw, Bool.and_eq_true, decide_eq_true_eq]
      exact ⟨⟨hl, hp.1⟩, hp.2⟩
    refine ⟨?_, fun _ => ?_⟩
    · simp only [lsts, chV, pth, List.append_nil]
      rw [List.filter_cons_of_pos hok]; rfl
    · simp [pth, chV]
  | j + 1, s, fs, L, hl, hs, hp, hL => by
    have hst := hD.st s (by omega)
    obtain ⟨P, hP⟩ : ∃ P, prO (prC D) M = P := ⟨_, rfl⟩
    have ih := flB_way hD M j (s + 1)
    rw [hP] at ih ⊢
    -- one hour after the other
    have key : ∀ k, k ≤ wid D s → flB D ((lstK D j s fs k).filter (okM D M)) = (if (upTo (fun h => wiV (chV D P j (s + 1)) P s h L) (D.fr s).toNat k).no then none else
          some (fs ++ (upTo (fun h => wiV (chV D P j (s + 1)) P s h L) (D.fr s).toNat k).h :: pth D P j (s + 1) (dec L (upTo (fun h => wiV (chV D P j (s + 1)) P s h L) (D.fr s).toNat k).h.toNat))) ∧
        ((upTo (fun h => wiV (chV D P j (s + 1)) P s h L) (D.fr s).toNat k).no = false → costF D (asF (fs ++ (upTo (fun h => wiV (chV D P j (s + 1)) P s h L) (D.fr s).toNat k).h :: pth D P j (s + 1) (dec L (upTo (fun h => wiV (chV D P j (s + 1)) P s h L) (D.fr s).toNat k).h.toNat))) D.m = costF D (asF fs) s + (upTo (fun h => wiV (chV D P j (s + 1)) P s h L) (D.fr s).toNat k).c) := by
      intro k
      induction k with
      | zero => intro _; exact ⟨rfl, fun h => by cases h⟩
      | succ k ihk =>
        intro hk
        obtain ⟨a1, a2⟩ := ihk (by omega)
        rw [lstK_succ, List.filter_append, flB_append, a1]
        obtain ⟨x, hx⟩ : ∃ x : Nat, (D.fr s).toNat + k = x := ⟨_, rfl⟩
        have hxi : D.fr s + (k : Int) = (x : Int) := by have := hst.fr; omega
        have hxn : x < D.n := by have := hst.to; unfold wid at hk; omega
        have hxt : (x : Int) ≤ D.to s := by unfold wid at hk; omega
        have e1 : upTo (fun h => wiV (chV D P j (s + 1)) P s h L) (D.fr s).toNat (k + 1) = better (upTo (fun h => wiV (chV D P j (s + 1)) P s h L) (D.fr s).toNat k) (wiV (chV D P j (s + 1)) P s x L) := by rw [← hx]; rfl
        rw [e1, hxi]
        generalize upTo (fun h => wiV (chV D P j (s + 1)) P s h L) (D.fr s).toNat k = U at a1 a2 ⊢
        have hpre := preB_succ (x := (x : Int)) hl hp
        have hps : P s x = if M s x then some (mv D s x * D.co s) else none := by rw [← hP]; rfl
        by_cases hb : preB D M (fs ++ [(x : Int)]) (s + 1) = true
        · -- the street can have the hour
          rw [hpre] at hb
          simp only [Bool.and_eq_true, decide_eq_true_eq, Int.toNat_natCast] at hb
          have hLx := hL x hxn
          have hne : L x ≠ 0 := by omega
          rw [if_pos hb.2] at hps
          obtain ⟨b1, b2⟩ := ih (fs ++ [(x : Int)]) (dec L x) (by simp [hl]) (by omega) (by rw [hpre]; simp only [Bool.and_eq_true, decide_eq_true_eq, Int.toNat_natCast]; exact hb) (fun h hh => by
            subst hl
            simp only [cnt]
            rw [cnt_congr (f := asF (fs ++ [(x : Int)])) (g := asF fs) (fun i hi => asF_lt hi), asF_eq]
            by_cases e : h = x
            · subst e; rw [dec_same, hLx, if_pos rfl]; omega
            · rw [dec_ne _ e, hL h hh, if_neg (by omega)]; simp)
          have ew : wiV (chV D P j (s + 1)) P s x L = ⟨x, mv D s x * D.co s + (chV D P j (s + 1) (dec L x)).c, (chV D P j (s + 1) (dec L x)).no⟩ := by unfold wiV; rw [hps]; simp only; rw [if_neg hne]
          rw [ew, b1]
          have ec : costF D (asF (fs ++ [(x : Int)])) (s + 1) = costF D (asF fs) s + mv D s x * D.co s := by
            subst hl
            show costF D (asF (fs ++ [(x : Int)])) fs.length + mv D fs.length (asF (fs ++ [(x : Int)]) fs.length) * D.co fs.length = _
            rw [asF_eq, costF_congr (g := asF fs) (fun i hi => asF_lt hi)]
          have ea : fs ++ [(x : Int)] ++ pth D P j (s + 1) (dec L x) = fs ++ (x : Int) :: pth D P j (s + 1) (dec L x) := by simp
          rw [ea] at b2 ⊢
          rw [ec] at b2
          cases hn : (chV D P j (s + 1) (dec L x)).no with
          | true =>
            have eb : better U ⟨x, mv D s x * D.co s + (chV D P j (s + 1) (dec L x)).c, true⟩ = U := by unfold better; rw [if_neg (fun h => by cases h.1)]
            rw [eb]
            exact ⟨rfl, a2⟩
          | false =>
            have b3 := b2 hn
            simp only [Bool.false_eq_true, if_false]
            cases hu : U.no with
            | true =>
              have eb : better U ⟨x, mv D s x * D.co s + (chV D P j (s + 1) (dec L x)).c, false⟩ = ⟨x, mv D s x * D.co s + (chV D P j (s + 1) (dec L x)).c, false⟩ := by unfold better; rw [if_pos ⟨rfl, .inl hu⟩]
              rw [eb]
              simp only [if_true, Int.toNat_natCast]
              exact ⟨rfl, fun _ => by omega⟩
            | false =>
              have a3 := a2 hu
              simp only [Bool.false_eq_true, if_false, btO, btr]
              by_cases hc : mv D s x * D.co s + (chV D P j (s + 1) (dec L x)).c < U.c
              · have eb : better U ⟨x, mv D s x * D.co s + (chV D P j (s + 1) (dec L x)).c, false⟩ = ⟨x, mv D s x * D.co s + (chV D P j (s + 1) (dec L x)).c, false⟩ := by unfold better; rw [if_pos ⟨rfl, .inr hc⟩]
                rw [eb, if_pos (by omega)]
                simp only [Int.toNat_natCast]
                exact ⟨rfl, fun _ => by omega⟩
              · have eb : better U ⟨x, mv D s x * D.co s + (chV D P j (s + 1) (dec L x)).c, false⟩ = U := by unfold better; rw [if_neg (fun h => by rcases h.2 with h2 | h2; (rw [hu] at h2; cases h2); exact hc h2)]
                rw [eb, if_neg (by omega), hu]
                exact ⟨rfl, fun _ => a3⟩
        · -- the street cannot have the hour
          have hnil : (lsts D j (s + 1) (fs ++ [(x : Int)])).filter (okM D M) = [] := by
            rw [List.filter_eq_nil_iff]
            intro l hmem hokl
            have := lsts_mem (s := s + 1) (by simp [hl]) hmem
            exact hb (okM_pre (by omega) this.2.1 hokl)
          rw [hnil]
          have ewn : (wiV (chV D P j (s + 1)) P s x L).no = true := by
            cases hw : (wiV (chV D P j (s + 1)) P s x L).no with
            | true => rfl
            | false =>
              obtain ⟨c1, c2, _⟩ := wiV_no.1 hw
              exfalso; apply hb
              rw [hpre]
              simp only [Bool.and_eq_true, decide_eq_true_eq, Int.toNat_natCast]
              have hM : M s x = true := by
                cases hm : M s x with
                | true => rfl
                | false => rw [hm] at hps; rw [hps] at c1; exact absurd rfl c1
              refine ⟨⟨within_tt (by omega) hxt, ?_⟩, hM⟩
              have hLx := hL x hxn
              have h4 : (cnt (asF fs) x s : Int) ≤ D.rm x := by
                simp only [preB, Bool.and_eq_true] at hp
                suffices H : ∀ u, u ≤ s → (cnt (asF fs) x u : Int) ≤ D.rm x from H s (Nat.le_refl _)
                intro u
                induction u with
                | zero => intro _; have := (hD.rm x hxn).1; simpa [cnt] using this
                | succ u ihu =>
                  intro hu
                  have h5 := ihu (by omega)
                  have h6 := allN_iff.1 hp.1 u (by omega)
                  simp only [newAt, Bool.and_eq_true, decide_eq_true_eq] at h6
                  simp only [cnt]
                  by_cases e : asF fs u = x
                  · rw [if_pos e]; rw [e] at h6; have := h6.2; simp at this; omega
                  · rw [if_neg e]; simpa using h5
              omega
          have eb : better U (wiV (chV D P j (s + 1)) P s x L) = U := by unfold better; rw [if_neg (fun h => by rw [ewn] at h; cases h.1)]
          rw [eb]
          exact ⟨rfl, a2⟩
    have h1 := key (wid D s) (Nat.le_refl _)
    rw [lsts_succ]
    exact h1
theorem pth_at {D : Ro} {P : Pr} (hD : OkP D) : ∀ (j k : Nat), k + j = D.m → ∀ i, i < j → (pth D P j k (lfA D P k)).getD i 0 = hrA D P (k + i)
  | 0, _, _, i, hi => absurd hi (Nat.not_lt_zero _)
  | j + 1, k, h, i, hi => by
    have e : D.m - k = j + 1 := by omega
    have e1 : hrA D P k = (chV D P (j + 1) k (lfA D P k)).h := by unfold hrA; rw [e]
    have e2 : lfA D P (k + 1) = dec (lfA D P k) (chV D P (j + 1) k (lfA D P k)).h.toNat := by simp only [lfA, e]
    simp only [pth]
    cases i with
    | zero => simp [e1]
    | succ i =>
      rw [List.getD_cons_succ, ← e2, pth_at hD j (k + 1) (by omega) i (by omega)]
      congr 1; omega
/-- all new rosters in which each street has an hour that it may have, in their order -/
def nwM (D : Ro) (M : Nat → Nat → Bool) : List (List Int) := (lsts D D.m 0 []).filter (okM D M)
theorem nwM_mem {D : Ro} (hD : OkP D) {M : Nat → Nat → Bool} {l : List Int} : l ∈ nwM D M ↔ l.length = D.m ∧ NR D (asF l) ∧ ∀ k, k < D.m → M k (asF l k).toNat = true := by
  unfold nwM
  rw [List.mem_filter]
  simp only [okM, Bool.and_eq_true, isNw_iff hD, allN_iff]
  constructor
  · rintro ⟨_, ⟨h1, h2⟩, h3⟩
    exact ⟨h1, h2, h3⟩
  · rintro ⟨h1, h2, h3⟩
    refine ⟨lsts_all (s := 0) rfl (by omega) (fun k hk => by omega) fun k _ hk => ?_, ⟨h1, h2⟩, h3⟩
    have := h2.h k (by omega)
    have := (hD.st k (by omega)).ft
    unfold wid; omega
/-- the first one that costs the least is the one that the program finds -/
theorem nwM_best {D : Ro} (hD : OkP D) (M : Nat → Nat → Bool) : (best D (prO (prC D) M)).no = true ∧ nwM D M = [] ∨ (best D (prO (prC D) M)).no = false ∧ ∃ l, flB D (nwM D M) = some l ∧ l.length = D.m ∧ ∀ k, k < D.m → asF l k = hrA D (prO (prC D) M) k := by
  have h := (flB_way hD M D.m 0 [] (lf0 D) rfl (by omega) rfl (fun h hh => by simp [lf0, hh, cnt])).1
  cases hn : (best D (prO (prC D) M)).no with
  | true =>
    left
    unfold best at hn
    rw [hn] at h
    exact ⟨rfl, flB_none.1 h⟩
  | false =>
    right
    unfold best at hn
    rw [hn] at h
    refine ⟨rfl, _, h, by simp [pth_len], fun k hk => ?_⟩
    have := pth_at (P := prO (prC D) M) hD D.m 0 (by omega) k hk
    rw [Nat.zero_add] at this
    show (([] : List Int) ++ pth D (prO (prC D) M) D.m 0 (lf0 D)).getD k 0 = _
    rw [List.nil_append]; exact this
end Go.Proofs.Ytegkgfiaegpihaa
