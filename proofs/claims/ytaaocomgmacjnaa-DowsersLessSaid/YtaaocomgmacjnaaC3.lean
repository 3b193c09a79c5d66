/- Books of dowsers: Copy once more: both its rows can be stored to. -/
import Derived.Test.YtaaocomgmacjnaaC1

set_option linter.unusedSimpArgs false

set_option linter.unusedVariables false

namespace Go.Proofs.Ytaaocomgmacjnaa

open Go.RowKit

set_option maxRecDepth 100000 in
set_option maxHeartbeats 4000000 in
theorem copy_open (B : Book) (p q : Option Addr) (c d : Nat) (w : World) (hF : B.F.length ≤ 1000) (hS : B.S.length ≤ 1000) (ht : BookIn w w.heap.size B p q) (hF0 : 0 < B.F.length) (hS0 : 0 < B.S.length) :
    Calls Try.prog 12 #[.agg #[.int .i64 B.D, .slice p B.F.length c, .int .i64 B.N, .slice q B.S.length d, .int .i64 B.P]] w fun e w' => ∃ p' c' q' d', e = .returned (.agg #[.int .i64 B.D, .slice p' B.F.length c', .int .i64 B.N, .slice q' B.S.length d', .int .i64 B.P]) ∧ Below w.heap.size w w' ∧ BookIn w' w'.heap.size B p' q' ∧ ∃ b1 b2, p' = some ⟨b1, 0, none⟩ ∧ q' = some ⟨b2, 0, none⟩ ∧ w.heap.size ≤ b1 ∧ b1 < b2 ∧ b1 < w'.heap.size ∧ (∀ i, w'.frozen? ⟨b1, i, none⟩ = false) ∧ b2 < w'.heap.size ∧ ∀ i, w'.frozen? ⟨b2, i, none⟩ = false := by
  obtain ⟨i3, hi3, hz3, hz3', hz3''⟩ := info_parts infoI
  obtain ⟨i4, hi4, hz4, hz4', hz4''⟩ := info_parts infoS
  have S1 := Lib.hid (show B.F.length ≤ maxLen by unfold maxLen; omega); have S2 := Lib.hid (show B.S.length ≤ maxLen by unfold maxLen; omega)
  have I3 := Lib.hid hi3; have Z3 := Lib.hid hz3; have Z3' := Lib.hid hz3'; have Z3'' := Lib.hid hz3''; clear hi3 hz3 hz3' hz3''
  have I4 := Lib.hid hi4; have Z4 := Lib.hid hz4; have Z4' := Lib.hid hz4'; have Z4'' := Lib.hid hz4''; clear hi4 hz4 hz4' hz4''
  obtain ⟨w3, hw3, hB3, hsz, k1, k3, o0, o1, o2, o3, o4, r0, r1, r2, r3, r4, fo, fr⟩ := three_books w B p q c d
  have HT := Lib.hid (ht.bel hB3)
  have HB := Lib.hid hB3
  have HF0 := Lib.hid hF0; have HS0 := Lib.hid hS0; clear hF0 hS0
  have HZ := Lib.hid hsz
  have zl : w.heap.size + 2 < w3.heap.size := by omega
  clear ht hB3 hsz
  go_enter Try.func12, Try.ntmps12
  go_wp2
  try rw [hw3]
  go_region_held3 (fun w' => w'.cell? ⟨w.heap.size, 1, none⟩ = some (.slice p B.F.length c) ∧ w'.cell? ⟨w.heap.size, 3, none⟩ = some (.slice q B.S.length d))
    (first
      | go_keep
      | exact ⟨k1a, k3a⟩
      | exact ⟨k1b, k3b⟩
      | (refine ⟨?_, ?_⟩ <;> (rw [World.cell?_setCell_other _ _ _ _ (by simp; try omega)]; assumption))
      | (refine ⟨?_, ?_⟩ <;> (rw [World.cell?_setCell_other _ _ _ _ (by simp; try omega), World.cell?_setCell_other _ _ _ _ (by simp; try omega)]; assumption))
      | (constructor <;> simp [World.cell?_setCell_other, *]))
    (first
    | (refine step_append_copyF' w3 rfl (.tmp 5) (.tmp 7) 22 rfl 3 i3 _ 1 8 Try.underlying22 I3.out Z3.out Z3'.out Z3''.out rfl (by decide) _ (by simp [Act.eval, Act.put]; rfl) p B.F.length c (by simp [Act.eval, Act.put]) HT.out.srcF S1.out (by omega) (by repeat (first | assumption | exact Below.refl _ _ | refine bA ?_ _ | refine bd ?_)) ?_; intro y1 c1 w1 hB1 hb1 hc1 hf1; have k1a := (hB1.cell (p := ⟨w.heap.size, 1, none⟩) (by simp only; omega)).trans k1; have k3a := (hB1.cell (p := ⟨w.heap.size, 3, none⟩) (by simp only; omega)).trans k3; have zl1 := Nat.lt_of_lt_of_le zl hB1.size; have HC1 := Lib.hid hc1; have HF1 := Lib.hid hf1; clear hc1 hf1)
    | (refine step_append_copyF' w3 rfl (.tmp 9) (.tmp 11) 23 rfl 33 i4 _ 4 32 Try.underlying23 I4.out Z4.out Z4'.out Z4''.out rfl (by decide) _ (by simp [Act.eval, Act.put]; rfl) q B.S.length d (by simp [Act.eval, Act.put]) HT.out.srcS S2.out (by omega) (by repeat (first | assumption | exact Below.refl _ _ | refine bA ?_ _ | refine bd ?_)) ?_; intro y2 c2 w2 hB2 hb2 hc2 hf2; have k1b := (hB2.cell (p := ⟨w.heap.size, 1, none⟩) (by simp only; omega)).trans k1; have k3b := (hB2.cell (p := ⟨w.heap.size, 3, none⟩) (by simp only; omega)).trans k3; have o0b := (hB2.cell (p := ⟨w.heap.size + 1 + 1, 0, none⟩) (by simp only; omega)).trans o0; have o1b := (hB2.cell (p := ⟨w.heap.size + 1 + 1, 1, none⟩) (by simp only; omega)).trans o1; have o2b := (hB2.cell (p := ⟨w.heap.size + 1 + 1, 2, none⟩) (by simp only; omega)).trans o2; have o3b := (hB2.cell (p := ⟨w.heap.size + 1 + 1, 3, none⟩) (by simp only; omega)).trans o3; have o4b := (hB2.cell (p := ⟨w.heap.size + 1 + 1, 4, none⟩) (by simp only; omega)).trans o4; have r0b := (hB2.cell (p := ⟨w.heap.size + 1, 0, none⟩) (by simp only; omega)).trans r0; have r1b := (hB2.cell (p := ⟨w.heap.size + 1, 1, none⟩) (by simp only; omega)).trans r1; have r2b := (hB2.cell (p := ⟨w.heap.size + 1, 2, none⟩) (by simp only; omega)).trans r2; have r3b := (hB2.cell (p := ⟨w.heap.size + 1, 3, none⟩) (by simp only; omega)).trans r3; have r4b := (hB2.cell (p := ⟨w.heap.size + 1, 4, none⟩) (by simp only; omega)).trans r4; have fob : ∀ i, w2.frozen? ⟨w.heap.size + 1 + 1, i, none⟩ = false := fun i => (hB2.frozen (p := ⟨w.heap.size + 1 + 1, i, none⟩) (by simp only; omega)).trans (fo i); have frb : ∀ i, w2.frozen? ⟨w.heap.size + 1, i, none⟩ = false := fun i => (hB2.frozen (p := ⟨w.heap.size + 1, i, none⟩) (by simp only; omega)).trans (fr i); have zl2 := Nat.lt_of_lt_of_le zl hB2.size; have HC2 := Lib.hid hc2; have HF2 := Lib.hid hf2; clear hc2 hf2))
  all_goals
    have K1 : 0 < B.F.length → ∃ b, y1 = some ⟨b, 0, none⟩ ∧ w3.heap.size ≤ b ∧ b < w2.heap.size ∧ ∀ a, p = some a → ∀ j, j < B.F.length * 1 → w2.cell? ⟨b, j, none⟩ = w3.cell? (a.add j) := fun h => by
      obtain ⟨b, e, l1, l2, f⟩ := HC1.out h
      simp at l1
      refine ⟨b, e, by omega, by have t := hb2.size; (try simp at t); omega, fun a ha j hj => ((hb2.cell (by simp; try omega)).trans ?_).trans (f a ha j hj)⟩
      first | rfl | exact World.cell?_alloc_past _ _ _ l2
    have K2 : 0 < B.S.length → ∃ b, y2 = some ⟨b, 0, none⟩ ∧ w3.heap.size ≤ b ∧ b < w2.heap.size ∧ ∀ a, q = some a → ∀ j, j < B.S.length * 4 → w2.cell? ⟨b, j, none⟩ = w3.cell? (a.add j) := fun h => by
      obtain ⟨b, e, l1, l2, f⟩ := HC2.out h
      have t := hb1.size
      have t2 := hB1.size
      simp at l1 t
      exact ⟨b, e, by omega, l2, f⟩
    have KK : ∃ b1 b2, y1 = some ⟨b1, 0, none⟩ ∧ y2 = some ⟨b2, 0, none⟩ ∧ w.heap.size ≤ b1 ∧ b1 < b2 ∧ b1 < w2.heap.size ∧ (∀ i, w2.frozen? ⟨b1, i, none⟩ = false) ∧ b2 < w2.heap.size ∧ ∀ i, w2.frozen? ⟨b2, i, none⟩ = false := by
      obtain ⟨b1, e1, l1, l2, _⟩ := HC1.out HF0.out
      obtain ⟨b2, e2, m1, m2, _⟩ := HC2.out HS0.out
      have t := hb2.size
      have t0 := HB.out.size
      simp at l1 m1 t
      refine ⟨b1, b2, e1, e2, by omega, by omega, by omega, fun i => (hb2.frozen (by simp; try omega)).trans ?_, m2, HF2.out HS0.out b2 e2⟩
      first | exact HF1.out HF0.out b1 e1 i | (rw [frozen?_alloc_cells]; exact HF1.out HF0.out b1 e1 i)
    have HKK := Lib.hid KK
    have HK1 := Lib.hid K1
    have HK2 := Lib.hid K2
    have HB2 := Lib.hid (bT HB.out hB2)
    have HZ3 := HZ.out
    have HL : w.heap.size + 2 < w2.heap.size := zl2
    clear K1 K2 KK HC1 HC2 HF1 HF2 HF0 HS0 hb1 hb2 hB1 hB2 k1 k3 k1a k3a k1b k3b o0 o1 o2 o3 o4 r0 r1 r2 r3 r4 fo fr
    go_wp2
    refine bodyPost_ret (v := .agg #[.int .i64 B.D, .slice y1 B.F.length c1, .int .i64 B.N, .slice y2 B.S.length c2, .int .i64 B.P]) ?_ rfl ?_
    case refine_2 =>
      refine ⟨y1, c1, y2, c2, rfl, ?_,
        copy_end HT.out HK1.out HK2.out (fun b j hb => by
          have g1 : b ≠ w.heap.size + 1 := by omega
          have g2 : b ≠ w.heap.size + 1 + 1 := by omega
          simp [World.cell?_setCell_other, g1, g2, Ne.symm g1, Ne.symm g2]) (by simp), ?_⟩
      case refine_1 =>
        iterate 7 (refine bS ?_ (by simp; try omega) _)
        exact HB2.out
      case refine_2 =>
        obtain ⟨b1, b2, e1, e2, l1, l2, l3, f, l4, f2⟩ := HKK.out
        exact ⟨b1, b2, e1, e2, l1, l2, by simpa using l3, fun i => by simpa using f i, by simpa using l4, fun i => by simpa using f2 i⟩
    simp [results, Try.results12, go_sem, o0b, o2b, o4b, r0b, r1b, r2b, r3b, r4b]
end Go.Proofs.Ytaaocomgmacjnaa
