/- Books of dowsers: all scores; Score of the program. -/
import Derived.Test.YtaaocomgmacjnaaD2

set_option linter.unusedSimpArgs false

set_option linter.unusedVariables false

namespace Go.Proofs.Ytaaocomgmacjnaa

open Go.RowKit

def scTo (B : Book) : Nat → Nat → Int
  | 0, _ => 0
  | k + 1, m => scTo B k m + (match B.F[k]? with
    | none => 0
    | some x => if x = 0 then 0 else gainTo B (k : Int) x B.S.length m)
theorem sc_step {B : Book} {k m : Nat} (hk : k < B.F.length) : scTo B (k + 1) m = scTo B k m + (if B.F[k] = 0 then 0 else gainTo B (k : Int) B.F[k] B.S.length m) := by
  simp [scTo, List.getElem?_eq_getElem hk]
theorem sc_bd {B : Book} (hok : B.ok = true) (hS : B.S.length ≤ 1000) (m : Nat) : ∀ k, k ≤ B.F.length → -12000 * (k : Int) ≤ scTo B k m ∧ scTo B k m ≤ 12000 * (k : Int)
  | 0, _ => by simp [scTo]
  | k + 1, h => by
    have ih := sc_bd hok hS m k (by omega)
    have hp := gain_bd hok (k : Int) B.F[k] m B.S.length (Nat.le_refl _)
    rw [sc_step (by omega)]
    split <;> omega

set_option maxRecDepth 100000 in
set_option maxHeartbeats 4000000 in
theorem scoresOf_any (B : Book) (p q : Option Addr) (c d : Nat) (w : World) (hok : B.ok = true) (hS : B.S.length ≤ 1000) (ht : BookIn w w.heap.size B p q) :
    Calls Try.prog 50 #[.agg #[.int .i64 B.D, .slice p B.F.length c, .int .i64 B.N, .slice q B.S.length d, .int .i64 B.P]] w fun e w' => e = .returned (.agg #[.int .i64 (scTo B B.F.length 0), .int .i64 (scTo B B.F.length 1), .int .i64 (scTo B B.F.length 2), .int .i64 (scTo B B.F.length 3)]) ∧ Below w.heap.size w w' := by
  obtain ⟨w3, hw3, hB3, hsz, ⟨k0, k1, k2, k3, k4, k5⟩, hR, hA⟩ := book_two w B p q c d
  have HK := Lib.hid (show BoxB w3 w.heap.size B p q c d from ⟨k0, k1, k2, k3, k4, k5⟩)
  have HB3 := Lib.hid hB3; have HRR := Lib.hid hR; have HAA := Lib.hid hA; have HT := Lib.hid ht; have HOK := Lib.hid hok
  obtain ⟨_, t2, _⟩ := B.ok_parts hok
  clear hB3 hR hA ht hok
  go_enter Try.func50, Try.ntmps50
  go_wp2
  clear hw3 k0 k1 k2 k3 k4
  go_loopw [9] (fun i wr => ∃ k : Nat, i = .int .i64 k ∧ k ≤ B.F.length ∧ Below w.heap.size w wr ∧ BoxB wr w.heap.size B p q c d ∧ Arr4 wr (w.heap.size + 1) (fun _ => 0) ∧ Arr4 wr (w.heap.size + 1 + 1) (scTo B k)) (fun i _ => B.F.length - (intOf i).toNat)
  case atStart => exact ⟨0, rfl, by omega, HB3.out, HK.out, HRR.out, HAA.out.same (fun m _ => rfl)⟩
  case round =>
    obtain ⟨k, rfl, hk, hbw, hbox, h1, h2⟩ := hrel
    have HW := Lib.hid hbw; have H1 := Lib.hid h1; have H2 := Lib.hid h2; have HX := Lib.hid hbox
    have lr := h2.lt
    clear hbw h1 h2 hbox
    by_cases hlt : k < B.F.length
    · have jk : decide ((k : Int) < (B.F.length : Int)) = true := by simp; omega
      obtain ⟨b, o, rfl, hfi⟩ := (HT.out.bel HW.out).f (by omega)
      have e0 := hfi.cell k hlt
      have hgs := fun m => sc_step (B := B) (m := m) hlt
      have hbd := fun m => sc_bd HOK.out hS m k hk
      have hgb := fun m => gain_bd HOK.out (k : Int) B.F[k] m B.S.length (Nat.le_refl _)
      obtain ⟨x, hx⟩ : ∃ x, B.F[k] = x := ⟨_, rfl⟩
      have hgs' : ∀ m, scTo B (k + 1) m = scTo B k m + (if x = 0 then 0 else gainTo B (k : Int) x B.S.length m) := fun m => by rw [← hx]; exact hgs m
      rw [hx] at e0
      have hgb' : ∀ m, -12 * (B.S.length : Int) ≤ gainTo B (k : Int) x B.S.length m ∧ gainTo B (k : Int) x B.S.length m ≤ 12 * (B.S.length : Int) := fun m => by rw [← hx]; exact hgb m
      have HGS := Lib.hid hgs'
      have hpl : ∀ V, _ := fun V => plus_any (scTo B k) (gainTo B (k : Int) x B.S.length) V (fun m _ => by have := hbd m; omega) (fun m _ => by have := hgb' m; omega)
      have HP := Lib.hid hpl
      have hga : ∀ V, Below wr.heap.size wr V → _ := fun V hV => gainOf_any B (some ⟨b, o, none⟩) q c d (k : Int) x V HOK.out hS ((HT.out.bel HW.out).bel hV)
      have HG := Lib.hid hga
      clear hgs hgs' hbd hgb hgb' hfi hx hpl hga
      have hx1 := HX.out
      obtain ⟨b0, b1, b2, b3, b4, b5⟩ := hx1
      by_cases hp : x = 0
      · have jp : (x != 0) = false := by simp [hp]
        go_wp2
        go_roundw
        case rel =>
          refine ⟨k + 1, by go_num, hlt, HW.out, HX.out, H1.out, H2.out.same fun m _ => ?_⟩
          rw [HGS.out m, if_pos hp]; omega
        case measure => simp [intOf]; omega
      · have jp : (x != 0) = true := by simp [hp]
        have a0 := H2.out.cell 0 (by omega); have a1 := H2.out.cell 1 (by omega); have a2 := H2.out.cell 2 (by omega); have a3 := H2.out.cell 3 (by omega)
        have az := H2.out.thaw
        have la := H2.out.lt
        have HNP := Lib.hid hp; clear hp
        go_wp2
        refine wp_region_last (fun w' => w'.cell? ⟨w.heap.size, 0, none⟩ = some (.int .i64 B.D) ∧ w'.cell? ⟨w.heap.size, 1, none⟩ = some (.slice (some ⟨b, o, none⟩) B.F.length c) ∧ w'.cell? ⟨w.heap.size, 2, none⟩ = some (.int .i64 B.N) ∧ w'.cell? ⟨w.heap.size, 3, none⟩ = some (.slice q B.S.length d) ∧ w'.cell? ⟨w.heap.size, 4, none⟩ = some (.int .i64 B.P) ∧ w'.cell? ⟨w.heap.size + 1 + 1, 0, none⟩ = some (.int .i64 (scTo B k 0)) ∧ w'.cell? ⟨w.heap.size + 1 + 1, 1, none⟩ = some (.int .i64 (scTo B k 1)) ∧ w'.cell? ⟨w.heap.size + 1 + 1, 2, none⟩ = some (.int .i64 (scTo B k 2)) ∧ w'.cell? ⟨w.heap.size + 1 + 1, 3, none⟩ = some (.int .i64 (scTo B k 3))) 6 (by kernel_rfl) rfl (⟨b0, b1, b2, b3, b4, a0, a1, a2, a3⟩) (fun hHeld => ?_)
        refine wpAnyG_take (i := 0) (v := ?_) (by kernel_rfl) rfl (by kernel_rfl) (by kernel_rfl) (by kernel_rfl) (fun _ _ _ h => h) (Or.inl ⟨by rfl, ?_⟩) (by assumption) ?_
        rotate_left
        · intro wS hSw
          (try dsimp only at hSw)
          go_simp
          try (with_reducible rfl)
        try simp only [Act.put, List.setIfInBounds_toArray, List.set_cons_zero, List.set_cons_succ]
        refine wpAnyG_take (i := 1) (v := ?_) (by kernel_rfl) rfl (by kernel_rfl) (by kernel_rfl) (by kernel_rfl) (fun _ _ _ h => h) (Or.inl ⟨by rfl, ?_⟩) (by assumption) ?_
        rotate_left
        · intro wS hSw
          (try dsimp only at hSw)
          go_simp
          try (with_reducible rfl)
        try simp only [Act.put, List.setIfInBounds_toArray, List.set_cons_zero, List.set_cons_succ]
        refine wpAnyG_take (i := 2) (v := ?_) (by kernel_rfl) rfl (by kernel_rfl) (by kernel_rfl) (by kernel_rfl) (fun _ _ _ h => h) (Or.inl ⟨by rfl, ?_⟩) (by assumption) ?_
        rotate_left
        · intro wS hSw
          (try dsimp only at hSw)
          go_simp
          try (with_reducible rfl)
        try simp only [Act.put, List.setIfInBounds_toArray, List.set_cons_zero, List.set_cons_succ]
        refine wpAnyG_take (i := 3) (v := ?_) (by kernel_rfl) rfl (by kernel_rfl) (by kernel_rfl) (by kernel_rfl) (fun _ _ _ h => h) (Or.inl ⟨by rfl, ?_⟩) (by assumption) ?_
        rotate_left
        · intro wS hSw
          (try dsimp only at hSw)
          go_simp
          try (with_reducible rfl)
        try simp only [Act.put, List.setIfInBounds_toArray, List.set_cons_zero, List.set_cons_succ]
        refine wpAnyG_one (i := 4) (by kernel_rfl) (by decide) (wpOp_plain rfl rfl ?_)
        go_simp
        go_at_call 74
        refine (HG.out _ (bd (Below.refl _ _))).mono ?_
        rintro e w4 ⟨rfl, hb4⟩
        have hB4 : Below wr.heap.size wr w4 := bT (bd (Below.refl _ _)) hb4
        have v0 := (hB4.cell b5).trans b0
        have v1 := (hB4.cell b5).trans b1
        have v2 := (hB4.cell b5).trans b2
        have v3 := (hB4.cell b5).trans b3
        have v4 := (hB4.cell b5).trans b4
        have v5 := (hB4.cell la).trans a0
        have v6 := (hB4.cell la).trans a1
        have v7 := (hB4.cell la).trans a2
        have v8 := (hB4.cell la).trans a3
        have HB4 := Lib.hid hB4
        clear hb4 hB4

        refine ⟨⟨v0, v1, v2, v3, v4, v5, v6, v7, v8⟩, ?_⟩
        try simp only [Act.put, List.setIfInBounds_toArray, List.set_cons_zero, List.set_cons_succ]
        clear hHeld
        have hHeld : (fun w' => w'.cell? ⟨w.heap.size, 0, none⟩ = some (.int .i64 B.D) ∧ w'.cell? ⟨w.heap.size, 1, none⟩ = some (.slice (some ⟨b, o, none⟩) B.F.length c) ∧ w'.cell? ⟨w.heap.size, 2, none⟩ = some (.int .i64 B.N) ∧ w'.cell? ⟨w.heap.size, 3, none⟩ = some (.slice q B.S.length d) ∧ w'.cell? ⟨w.heap.size, 4, none⟩ = some (.int .i64 B.P) ∧ w'.cell? ⟨w.heap.size + 1 + 1, 0, none⟩ = some (.int .i64 (scTo B k 0)) ∧ w'.cell? ⟨w.heap.size + 1 + 1, 1, none⟩ = some (.int .i64 (scTo B k 1)) ∧ w'.cell? ⟨w.heap.size + 1 + 1, 2, none⟩ = some (.int .i64 (scTo B k 2)) ∧ w'.cell? ⟨w.heap.size + 1 + 1, 3, none⟩ = some (.int .i64 (scTo B k 3))) w4 := ⟨v0, v1, v2, v3, v4, v5, v6, v7, v8⟩
        refine wpAnyG_one (i := 5) (by kernel_rfl) (by decide) (wpOp_plain rfl rfl ?_)
        go_simp
        go_at_call 73
        refine (HP.out _).mono ?_
        rintro e w5 ⟨rfl, hb5⟩
        have hB5 : Below wr.heap.size wr w5 := bT HB4.out hb5
        have u0 := (hB5.cell b5).trans b0
        have u1 := (hB5.cell b5).trans b1
        have u2 := (hB5.cell b5).trans b2
        have u3 := (hB5.cell b5).trans b3
        have u4 := (hB5.cell b5).trans b4
        have u5 := (hB5.cell la).trans a0
        have u6 := (hB5.cell la).trans a1
        have u7 := (hB5.cell la).trans a2
        have u8 := (hB5.cell la).trans a3
        have fz5 := fun i => (hB5.frozen la).trans (az i)
        have HB5 := Lib.hid hB5
        clear hb5 hB5 v0 v1 v2 v3 v4 v5 v6 v7 v8 hHeld

        refine ⟨⟨u0, u1, u2, u3, u4, u5, u6, u7, u8⟩, ?_⟩
        try simp only [Act.put, List.setIfInBounds_toArray, List.set_cons_zero, List.set_cons_succ]

        refine wpAnyG_done (by kernel_rfl) (by kernel_rfl) (wpOp_plain rfl rfl ?_)
        go_simp
        go_wp2
        go_roundw
        case rel =>
          have hA := H2.out.below HB5.out
          refine ⟨k + 1, by go_num, hlt, ?_, ((((HX.out.below HB5.out).keep (by omega)).keep (by omega)).keep (by omega)).keep (by omega), ((((H1.out.below HB5.out).keep (by omega)).keep (by omega)).keep (by omega)).keep (by omega), ?_⟩
          · iterate 4 (refine bS ?_ (by simp; try omega) _)
            exact bT HW.out HB5.out
          · have g := ((((hA.put (k := 0) (v := scTo B k 0 + gainTo B (k : Int) x B.S.length 0) (f' := plusTo (scTo B k) (gainTo B (k : Int) x B.S.length) 1) (by omega) rfl (fun m h4 hm => by simp [plusTo]; omega)).put (k := 1) (v := scTo B k 1 + gainTo B (k : Int) x B.S.length 1) (f' := plusTo (scTo B k) (gainTo B (k : Int) x B.S.length) 2) (by omega) rfl (fun m h4 hm => by simp [plusTo]; split <;> split <;> omega)).put (k := 2) (v := scTo B k 2 + gainTo B (k : Int) x B.S.length 2) (f' := plusTo (scTo B k) (gainTo B (k : Int) x B.S.length) 3) (by omega) rfl (fun m h4 hm => by simp [plusTo]; split <;> split <;> omega)).put (k := 3) (v := scTo B k 3 + gainTo B (k : Int) x B.S.length 3) (f' := plusTo (scTo B k) (gainTo B (k : Int) x B.S.length) 4) (by omega) rfl (fun m h4 hm => by simp [plusTo]; split <;> split <;> omega))
            exact g.same fun m h4 => by rw [HGS.out m, if_neg HNP.out]; simp [plusTo, h4]
        case measure => simp [intOf]; omega
    · have jk : decide ((k : Int) < (B.F.length : Int)) = false := by simp; omega
      obtain rfl : k = B.F.length := by omega
      have c0 := H2.out.cell 0 (by omega); have c1 := H2.out.cell 1 (by omega); have c2 := H2.out.cell 2 (by omega); have c3 := H2.out.cell 3 (by omega)
      have r0 := H1.out.cell 0 (by omega); have r1 := H1.out.cell 1 (by omega); have r2 := H1.out.cell 2 (by omega); have r3 := H1.out.cell 3 (by omega)
      have fr := H1.out.thaw
      have hl := H1.out.lt
      go_wp2
      refine bodyPost_ret (v := .agg #[.int .i64 (scTo B B.F.length 0), .int .i64 (scTo B B.F.length 1), .int .i64 (scTo B B.F.length 2), .int .i64 (scTo B B.F.length 3)]) ?_ rfl ?_
      case refine_2 =>
        refine ⟨rfl, ?_⟩
        iterate 4 (refine bS ?_ (by simp; try omega) _)
        exact HW.out
      simp [results, Try.results50, go_sem, r0, r1, r2, r3]
end Go.Proofs.Ytaaocomgmacjnaa
