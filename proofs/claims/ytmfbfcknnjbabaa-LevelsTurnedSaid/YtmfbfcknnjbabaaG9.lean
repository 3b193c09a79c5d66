/- LevelsHolds returns true in every walk, whatever the town and the list. -/
import Derived.Test.YtmfbfcknnjbabaaG8
set_option linter.unusedSimpArgs false
set_option linter.unusedVariables false
namespace Go.Proofs.Ytmfbfcknnjbabaa
open Go.RowKit

/-- a town and its copy lie in their variables -/
structure TwoC (b b' : Nat) (W : Int) (p q p' q' : Option Addr) (m n c d c' d' : Nat) (V : World) : Prop where
  t0 : V.cell? ⟨b, 0, none⟩ = some (.int .i64 W)
  t1 : V.cell? ⟨b, 1, none⟩ = some (.slice p m c)
  t2 : V.cell? ⟨b, 2, none⟩ = some (.slice q n d)
  q0 : V.cell? ⟨b', 0, none⟩ = some (.int .i64 W)
  q1 : V.cell? ⟨b', 1, none⟩ = some (.slice p' m c')
  q2 : V.cell? ⟨b', 2, none⟩ = some (.slice q' n d')
  lt : b < V.heap.size
  lt' : b' < V.heap.size
theorem TwoC.below {b b' : Nat} {W : Int} {p q p' q' : Option Addr} {m n c d c' d' : Nat} {V V' : World} (h : TwoC b b' W p q p' q' m n c d c' d' V) (hb : Below V.heap.size V V') : TwoC b b' W p q p' q' m n c d c' d' V' :=
  have l1 := h.lt
  have l2 := h.lt'
  ⟨(hb.cell (by simp only; omega)).trans h.t0, (hb.cell (by simp only; omega)).trans h.t1, (hb.cell (by simp only; omega)).trans h.t2, (hb.cell (by simp only; omega)).trans h.q0, (hb.cell (by simp only; omega)).trans h.q1, (hb.cell (by simp only; omega)).trans h.q2,
    Nat.lt_of_lt_of_le h.lt hb.size, Nat.lt_of_lt_of_le h.lt' hb.size⟩
theorem TownIn.bel {w w' : World} {T : Town} {p q : Option Addr} (h : TownIn w w.heap.size T p q) (hb : Below w.heap.size w w') : TownIn w' w'.heap.size T p q := (h.below hb).mono hb.size
theorem append_none (x : Option Addr) (cx g : Nat) (ty : TypeId) (W : World) : Sem.run Try.prog (Builtin.append_ #[26, 26] ty #[.slice (some ⟨g, 0, none⟩) 0 0, .slice x 0 cx]) W = .ok (.slice (some ⟨g, 0, none⟩) 0 0) W := by
  obtain ⟨i0, hi, hz0, hz1, hz2⟩ := info_parts info3
  cases x <;> simp [Builtin.append_, run_underlying Try.underlying26, sizeOf, typeInfo, hi, Builtin.lenOf, Builtin.firstCells, loadCells, loadCellsFrom, storeCells, Sem.run_bind]

section
variable {ops : Array Oper} {rest : List Oper} {o : Oper} {a : Act} {w : World} {Q : Exit → Act → World → Prop}
/-- append([]int{}, x...) -/
theorem wpList_append_ints (hgd : o.guard = none) (s x : Operand) (ho : o.op = .call { callee := .builtin .append, args := #[s, x], argTypes := #[26, 26] }) (base g : Nat) (hs : a.eval s = .slice (some ⟨g, 0, none⟩) 0 0)
    (hlit : w.ownsRow base 3 1 (.slice (some ⟨g, 0, none⟩) 0 0) 0 []) (l : List Int) (ad : Option Addr) (cx : Nat) (hx : a.eval x = .slice ad l.length cx) (hi : Ints w ad l) (hl : l.length ≤ 1000) (hbase : base ≤ w.heap.size)
    (h : ∀ v c' w', w'.ownsRow base 3 1 (.slice v l.length c') l.length (l.map (Value.int .i64)) → w.grownBy w' (some g) → wpList Try.prog ops Q rest (a.put o.dst (.slice v l.length c')) w') : wpList Try.prog ops Q (o :: rest) a w := by
  obtain ⟨i0, hi0, hz0, hz1, hz2⟩ := info_parts info3
  cases ad with
  | some ad =>
    refine wpList_append_own w hgd s x 26 ho base 3 i0 _ 1 8 Try.underlying26 hi0 hz0 hz1 hz2 rfl (by decide) _ 0 [] hs hlit ad l.length cx (l.map (Value.int .i64)) hx (by simp) ?_ (by intro u hu; obtain ⟨y, _, rfl⟩ := List.mem_map.1 hu; rfl) (by unfold maxLen; omega) (by omega) hbase ?_
    · intro j u hu
      have hj : j < l.length := by have := (List.getElem?_eq_some_iff.1 hu).1; simpa using this
      obtain ⟨b, o', e, hc⟩ := hi (by omega)
      cases e
      rw [add_at, hc.cell j hj]
      rw [List.getElem?_map, List.getElem?_eq_getElem hj] at hu
      obtain rfl : Value.int .i64 l[j] = u := Option.some.inj hu
      simp [hj]
    · intro v' w' hown hgr _
      simp only [Nat.zero_add, List.nil_append] at hown
      obtain ⟨p, c', rfl, _⟩ := own_form hown
      exact h p c' w' hown hgr
  | none =>
    have h0 : l.length = 0 := by
      rcases Nat.eq_zero_or_pos l.length with h | h
      · exact h
      · obtain ⟨b, o', e, _⟩ := hi h; cases e
    have hnil : l = [] := List.eq_nil_of_length_eq_zero h0
    subst hnil
    refine wpList_plain hgd fun K hK => ?_
    have hrun := append_none none cx g o.type w
    unfold Oper.wp
    simp only [List.length_nil] at hx
    simp [execOp, ho, resolve, invoke, builtin, hs, hx, hrun, Result.andThen]
    exact hK _ _ (h _ _ _ hlit (gR _ _))
end

set_option maxRecDepth 100000 in
set_option maxHeartbeats 4000000 in
theorem holds_big (T : Town) (p q : Option Addr) (c d : Nat) (xs : List Int) (x : Option Addr) (cx : Nat) (w : World) (hx : xs.length ≤ 9223372036854775807)
    (hbig : (40 < T.s.length ∨ 40 < T.r.length) ∨ 40 < xs.length) :
    Calls Try.prog 3 #[.agg #[.int .i64 T.W, .slice p T.s.length c, .slice q T.r.length d], .slice x xs.length cx] w fun e w' => e = .returned (.bool true) ∧ Below w.heap.size w w' := by
  obtain ⟨w1, hw1, hb1, hz1, k0, k1, k2⟩ := box_town w T.W p q T.s.length T.r.length c d
  have hl1 : w.heap.size < w1.heap.size := by omega
  have hhuge := huge_any T.W p q T.s.length T.r.length c d w1
  have HB1 := Lib.hid hb1; clear hb1
  by_cases h1 : 40 < T.s.length ∨ 40 < T.r.length
  · rw [decide_eq_true h1] at hhuge
    have HH := Lib.hid hhuge
    clear hhuge hbig h1
    go_enter Try.func3, Try.ntmps3
    go_wp2_with (first
      | (go_at_call 15; refine HH.out.mono ?_; rintro e w2 ⟨rfl, hb2⟩; go_must (have HB2 := Lib.hid hb2; clear hb2))
      | (go_at_call 16; refine (works_ex _).mono ?_; rintro e w3 ⟨rfl, hb3⟩; go_must (have HB3 := Lib.hid hb3; clear hb3)))
    go_ret
    exact ⟨rfl, bT HB1.out (bT HB2.out HB3.out)⟩
  · rw [decide_eq_false h1] at hhuge
    have HH := Lib.hid hhuge
    have hl : decide ((40 : Int) < (xs.length : Int)) = true := decide_eq_true (by omega)
    clear hhuge hbig h1
    go_enter Try.func3, Try.ntmps3
    go_wp2_with (first
      | (go_at_call 15; refine HH.out.mono ?_; rintro e w2 ⟨rfl, hb2⟩; go_must (have HB2 := Lib.hid hb2; clear hb2))
      | (go_at_call 16; refine (works_ex _).mono ?_; rintro e w3 ⟨rfl, hb3⟩; go_must (have HB3 := Lib.hid hb3; clear hb3)))
    go_ret
    exact ⟨rfl, bT HB1.out (bT HB2.out HB3.out)⟩

set_option maxRecDepth 100000 in
set_option maxHeartbeats 4000000 in
theorem holds_small (T : Town) (p q : Option Addr) (c d : Nat) (xs : List Int) (x : Option Addr) (cx : Nat) (w : World) (hs : T.s.length ≤ 40) (hr : T.r.length ≤ 40) (hx : xs.length ≤ 40)
    (ht : TownIn w w.heap.size T p q) (hi : Ints w x xs) :
    Calls Try.prog 3 #[.agg #[.int .i64 T.W, .slice p T.s.length c, .slice q T.r.length d], .slice x xs.length cx] w fun e w' => e = .returned (.bool true) ∧ Below w.heap.size w w' := by
  obtain ⟨w1, hw1, hb1, hz1, k0, k1, k2⟩ := box_town w T.W p q T.s.length T.r.length c d
  have hl1 : w.heap.size < w1.heap.size := by omega
  have hhuge := huge_any T.W p q T.s.length T.r.length c d w1
  rw [decide_eq_false (by omega)] at hhuge
  have hcopy : ∀ V, Below w.heap.size w V → _ := fun V hV => copy_any T p q c d V (by omega) (by omega) (ht.bel hV)
  have hl : decide ((40 : Int) < (xs.length : Int)) = false := decide_eq_false (by omega)
  obtain ⟨b0, hb0⟩ : ∃ b, (T.ok && truth T xs) = b := ⟨_, rfl⟩
  obtain ⟨e0, he0⟩ : ∃ e, vErr T.ok = e := ⟨_, rfl⟩
  have hP := fun (V : World) (p q : Option Addr) (c d : Nat) (v : Option Addr) (cv : Nat) (ht : TownIn V V.heap.size T p q) (hi : Ints V v xs) => holdsP_any T p q c d xs v cv V (by omega) (by omega) (by omega) ht hi
  have hR := fun (V : World) (p q : Option Addr) (c d : Nat) (v : Option Addr) (cv : Nat) (ht : TownIn V V.heap.size T p q) (hi : Ints V v xs) => holdsR_any T p q c d xs v cv V (by omega) (by omega) (by omega) ht hi
  have hcP := fun (V : World) (p q : Option Addr) (c d : Nat) (ht : TownIn V V.heap.size T p q) => checkP_any T p q c d V (by omega) (by omega) ht
  have hcR := fun (V : World) (p q : Option Addr) (c d : Nat) (ht : TownIn V V.heap.size T p q) => checkR_any T p q c d V (by omega) (by omega) ht
  have hS := fun (V : World) (p q : Option Addr) (c d : Nat) (p' q' : Option Addr) (c' d' : Nat) (ht : TownIn V V.heap.size T p q) (ht' : TownIn V V.heap.size T p' q') => same_any T p q c d p' q' c' d' V (by omega) (by omega) ht ht'
  have hI := fun (V : World) (v v' : Option Addr) (c c' : Nat) (h1 : Ints V v xs) (h2 : Ints V v' xs) => sameInts_any xs xs v v' c c' V (by omega) (by omega) h1 h2
  rw [hb0, he0] at hP hR
  rw [he0] at hcP hcR
  have HP := Lib.hid hP; have HR := Lib.hid hR; have HCP := Lib.hid hcP; have HCR := Lib.hid hcR; have HS := Lib.hid hS; have HIN := Lib.hid hI
  clear hb0 he0 hP hR hcP hcR hS hI
  have HH := Lib.hid hhuge; have HC := Lib.hid hcopy; have HB1 := Lib.hid hb1; have HT := Lib.hid ht; have HI := Lib.hid hi
  clear hhuge hcopy hb1 ht hi
  go_enter Try.func3, Try.ntmps3
  go_wp2_with (first
    | (go_at_call 15; refine HH.out.mono ?_; rintro e w2 ⟨rfl, hb2⟩; go_must (have HB2 := Lib.hid hb2; have l2 : w.heap.size < w2.heap.size := (by have := hb2.size; omega); have j0 := (hb2.cell (p := ⟨w.heap.size, 0, none⟩) hl1).trans k0; have j1 := (hb2.cell (p := ⟨w.heap.size, 1, none⟩) hl1).trans k1; have j2 := (hb2.cell (p := ⟨w.heap.size, 2, none⟩) hl1).trans k2; clear hb2))
    | (go_at_call 17; refine (HC.out _ (bT HB1.out HB2.out)).mono ?_; rintro e w3 ⟨p', c', q', d', rfl, hb3, ht3⟩; go_must (have HB3 := Lib.hid hb3; have HT3 := Lib.hid ht3; clear hb3 ht3))
    | (at_builtin; refine wpList_append_ints rfl _ _ rfl w3.heap.size w3.heap.size rfl (lit_at rfl (Nat.le_refl _)) xs x cx rfl ((HI.out.below (bT HB1.out HB2.out)).below (bA HB3.out _)) (by omega) (by simp) ?_; intro v4 c4 w4 hown4 hg4; go_must (have HO4 := Lib.hid hown4; have HB4 := Lib.hid (below_grown (bA (Below.refl w3.heap.size w3) (.cells #[] 3)) (lit_at (e := 3) (size := 1) rfl (Nat.le_refl _)) (Nat.le_refl _) hg4); clear hown4 hg4))
    | (go_at_call 18; refine (HP.out _ _ _ _ _ _ _ ((HT3.out.bel HB4.out).bel (bA (Below.refl _ _) _)) ((ints_own HO4.out).below (bA (Below.refl _ _) _))).mono ?_; rintro e w6 ⟨rfl, hb6⟩; go_must (have hbA := bT (bT HB2.out HB3.out) (bT HB4.out (bT (bA (Below.refl _ _) _) hb6)); have hz4 : w.heap.size < w4.heap.size := (by have := (bT (bT HB2.out HB3.out) HB4.out).size; omega); have h6 : TwoC w.heap.size w4.heap.size T.W p q p' q' T.s.length T.r.length c d c' d' w6 := ⟨(hbA.cell hl1).trans k0, (hbA.cell hl1).trans k1, (hbA.cell hl1).trans k2, (hb6.cell (by simp)).trans (by go_simp), (hb6.cell (by simp)).trans (by go_simp), (hb6.cell (by simp)).trans (by go_simp), by have := hbA.size; omega, by have := hb6.size; simp at this; omega⟩; clear j0 j1 j2; have j0 := h6.t0; have j1 := h6.t1; have j2 := h6.t2; have H6 := Lib.hid h6; have HB6 := Lib.hid (bT HB1.out hbA); have HT6 := Lib.hid ((HT3.out.bel HB4.out).bel (bT (bA (Below.refl _ _) _) hb6)); have HK6 := Lib.hid (((ints_own HO4.out).below (bT (bA (Below.refl _ _) _) hb6))); clear hbA hb6 h6))
    | (go_at_call 19; refine (HR.out _ _ _ _ _ _ _ (HT.out.bel HB6.out) (HI.out.below HB6.out)).mono ?_; rintro e w7 ⟨rfl, hb7⟩; go_must (have h7 := H6.out.below hb7; clear j0 j1 j2; have j0 := h7.t0; have j1 := h7.t1; have j2 := h7.t2; have m0 := h7.q0; have m1 := h7.q1; have m2 := h7.q2; have HB7 := Lib.hid (bT HB6.out hb7); have HT7 := Lib.hid (HT6.out.bel hb7); have HK7 := Lib.hid (HK6.out.below hb7); have H7 := Lib.hid h7; clear hb7 h7)))
  have l7 : w.heap.size < w7.heap.size := H7.out.lt
  have l7' : w4.heap.size < w7.heap.size := H7.out.lt'
  have HTT := Lib.hid (HT.out.bel HB7.out)
  have HII := Lib.hid (HI.out.below HB7.out)
  go_region_held3 (fun w' => w'.cell? ⟨w.heap.size, 0, none⟩ = some (.int .i64 T.W) ∧ w'.cell? ⟨w.heap.size, 1, none⟩ = some (.slice p T.s.length c) ∧ w'.cell? ⟨w.heap.size, 2, none⟩ = some (.slice q T.r.length d) ∧ w'.cell? ⟨w4.heap.size, 0, none⟩ = some (.int .i64 T.W) ∧ w'.cell? ⟨w4.heap.size, 1, none⟩ = some (.slice p' T.s.length c') ∧ w'.cell? ⟨w4.heap.size, 2, none⟩ = some (.slice q' T.r.length d'))
    (first | go_keep | exact ⟨d0, d1, d2, d3, d4, d5⟩)
    (first
      | (go_at_call 20; refine (HCP.out _ _ _ _ _ (TownIn.bel HT7.out (by repeat (first | assumption | exact Below.refl _ _ | refine bd ?_ | refine bD ?_ _)))).mono ?_; rintro e w8 ⟨rfl, hb8⟩; go_must (have hB8 : Below w7.heap.size w7 w8 := bT (by repeat (first | assumption | exact Below.refl _ _ | refine bd ?_ | refine bD ?_ _)) hb8; have d0 := (hB8.cell (p := ⟨w.heap.size, 0, none⟩) l7).trans j0; have d1 := (hB8.cell (p := ⟨w.heap.size, 1, none⟩) l7).trans j1; have d2 := (hB8.cell (p := ⟨w.heap.size, 2, none⟩) l7).trans j2; have d3 := (hB8.cell (p := ⟨w4.heap.size, 0, none⟩) l7').trans m0; have d4 := (hB8.cell (p := ⟨w4.heap.size, 1, none⟩) l7').trans m1; have d5 := (hB8.cell (p := ⟨w4.heap.size, 2, none⟩) l7').trans m2; clear hb8))
      | (go_at_call 21; refine (HCR.out _ _ _ _ _ (TownIn.bel HTT.out (by repeat (first | assumption | exact Below.refl _ _ | refine bd ?_ | refine bD ?_ _)))).mono ?_; rintro e w9 ⟨rfl, hb9⟩; go_must (have hB9 : Below w7.heap.size w7 w9 := bT (by repeat (first | assumption | exact Below.refl _ _ | refine bd ?_ | refine bD ?_ _)) hb9; have d0 := (hB9.cell (p := ⟨w.heap.size, 0, none⟩) l7).trans j0; have d1 := (hB9.cell (p := ⟨w.heap.size, 1, none⟩) l7).trans j1; have d2 := (hB9.cell (p := ⟨w.heap.size, 2, none⟩) l7).trans j2; have d3 := (hB9.cell (p := ⟨w4.heap.size, 0, none⟩) l7').trans m0; have d4 := (hB9.cell (p := ⟨w4.heap.size, 1, none⟩) l7').trans m1; have d5 := (hB9.cell (p := ⟨w4.heap.size, 2, none⟩) l7').trans m2; clear hb9))
      | (go_at_call 22; refine (HS.out _ _ _ _ _ _ _ _ _ (TownIn.bel HT7.out (by repeat (first | assumption | exact Below.refl _ _ | refine bd ?_ | refine bD ?_ _))) (TownIn.bel HTT.out (by repeat (first | assumption | exact Below.refl _ _ | refine bd ?_ | refine bD ?_ _)))).mono ?_; rintro e w10 ⟨rfl, hb10⟩; go_must (have hB10 : Below w7.heap.size w7 w10 := bT (by repeat (first | assumption | exact Below.refl _ _ | refine bd ?_ | refine bD ?_ _)) hb10; have d0 := (hB10.cell (p := ⟨w.heap.size, 0, none⟩) l7).trans j0; have d1 := (hB10.cell (p := ⟨w.heap.size, 1, none⟩) l7).trans j1; have d2 := (hB10.cell (p := ⟨w.heap.size, 2, none⟩) l7).trans j2; have d3 := (hB10.cell (p := ⟨w4.heap.size, 0, none⟩) l7').trans m0; have d4 := (hB10.cell (p := ⟨w4.heap.size, 1, none⟩) l7').trans m1; have d5 := (hB10.cell (p := ⟨w4.heap.size, 2, none⟩) l7').trans m2; clear hb10))
      | (go_at_call 23; refine (HIN.out _ _ _ _ _ (HK7.out.below (by repeat (first | assumption | exact Below.refl _ _ | refine bd ?_ | refine bD ?_ _))) (HII.out.below (by repeat (first | assumption | exact Below.refl _ _ | refine bd ?_ | refine bD ?_ _)))).mono ?_; rintro e w11 ⟨rfl, n11, hw11⟩; go_must (have hb11 := (show Below _ _ w11 from hw11 ▸ bD (Below.refl _ _) n11); have hB11 : Below w7.heap.size w7 w11 := bT (by repeat (first | assumption | exact Below.refl _ _ | refine bd ?_ | refine bD ?_ _)) hb11; have d0 := (hB11.cell (p := ⟨w.heap.size, 0, none⟩) l7).trans j0; have d1 := (hB11.cell (p := ⟨w.heap.size, 1, none⟩) l7).trans j1; have d2 := (hB11.cell (p := ⟨w.heap.size, 2, none⟩) l7).trans j2; have d3 := (hB11.cell (p := ⟨w4.heap.size, 0, none⟩) l7').trans m0; have d4 := (hB11.cell (p := ⟨w4.heap.size, 1, none⟩) l7').trans m1; have d5 := (hB11.cell (p := ⟨w4.heap.size, 2, none⟩) l7').trans m2; clear hb11; clear hw11))
      | (go_at_call 16; refine (works_ex _).mono ?_; rintro e w12 ⟨rfl, hb12⟩; go_must (have hB12 : Below w7.heap.size w7 w12 := bT (by repeat (first | assumption | exact Below.refl _ _ | refine bd ?_ | refine bD ?_ _)) hb12; have d0 := (hB12.cell (p := ⟨w.heap.size, 0, none⟩) l7).trans j0; have d1 := (hB12.cell (p := ⟨w.heap.size, 1, none⟩) l7).trans j1; have d2 := (hB12.cell (p := ⟨w.heap.size, 2, none⟩) l7).trans j2; have d3 := (hB12.cell (p := ⟨w4.heap.size, 0, none⟩) l7').trans m0; have d4 := (hB12.cell (p := ⟨w4.heap.size, 1, none⟩) l7').trans m1; have d5 := (hB12.cell (p := ⟨w4.heap.size, 2, none⟩) l7').trans m2; clear hb12)))
  all_goals
    go_wp2
    go_ret
    exact ⟨rfl, bT HB7.out (by repeat (first | assumption | exact Below.refl _ _ | refine bd ?_ | refine bD ?_ _))⟩
/-- LevelsHolds answers true, whatever the town and the list -/
theorem holds_law (T : Town) (p q : Option Addr) (c d : Nat) (xs : List Int) (x : Option Addr) (cx : Nat) (w : World) (hx : xs.length ≤ 9223372036854775807) (ht : TownIn w w.heap.size T p q) (hi : Ints w x xs) :
    Calls Try.prog 3 #[.agg #[.int .i64 T.W, .slice p T.s.length c, .slice q T.r.length d], .slice x xs.length cx] w fun e w' => e = .returned (.bool true) ∧ Below w.heap.size w w' := by
  by_cases h : (40 < T.s.length ∨ 40 < T.r.length) ∨ 40 < xs.length
  · exact holds_big T p q c d xs x cx w hx h
  · exact holds_small T p q c d xs x cx w (by omega) (by omega) (by omega) ht hi
end Go.Proofs.Ytmfbfcknnjbabaa
