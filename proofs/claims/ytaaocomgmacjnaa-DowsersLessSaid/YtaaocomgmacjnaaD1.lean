/- Books of dowsers: arrays of four; plus. -/
import Derived.Test.YtaaocomgmacjnaaC2

set_option linter.unusedSimpArgs false

set_option linter.unusedVariables false

namespace Go.Proofs.Ytaaocomgmacjnaa

open Go.RowKit

/-- a block of four numbers, open to stores -/
structure Arr4 (w : World) (g : Nat) (f : Nat → Int) : Prop where
  cell : ∀ m, m < 4 → w.cell? ⟨g, m, none⟩ = some (.int .i64 (f m))
  thaw : ∀ i, w.frozen? ⟨g, i, none⟩ = false
  lt : g < w.heap.size
theorem Arr4.below {w w' : World} {g : Nat} {f : Nat → Int} (h : Arr4 w g f) (hb : Below w.heap.size w w') : Arr4 w' g f :=
  ⟨fun m hm => (hb.cell h.lt).trans (h.cell m hm), fun i => (hb.frozen h.lt).trans (h.thaw i), Nat.lt_of_lt_of_le h.lt hb.size⟩
theorem Arr4.put {w : World} {g k : Nat} {f f' : Nat → Int} {v : Int} (h : Arr4 w g f) (hk : k < 4) (hv : v = f' k) (ho : ∀ m, m < 4 → m ≠ k → f' m = f m) : Arr4 (w.setCell ⟨g, k, none⟩ (.int .i64 v)) g f' :=
  ⟨fun m hm => by
    by_cases e : m = k
    · subst e; rw [World.cell?_setCell_same _ _ _ (h.cell m hm), hv]
    · rw [World.cell?_setCell_other _ _ _ _ (by simp; try omega), h.cell m hm, ho m hm e],
   fun i => by simpa using h.thaw i, by simpa using h.lt⟩
theorem Arr4.keep {w : World} {g g' k : Nat} {f : Nat → Int} {v : Value} (h : Arr4 w g f) (hg : g' ≠ g) : Arr4 (w.setCell ⟨g', k, none⟩ v) g f :=
  ⟨fun m hm => by rw [World.cell?_setCell_other _ _ _ _ (by simp; try omega)]; exact h.cell m hm, fun i => by simpa using h.thaw i, by simpa using h.lt⟩
theorem Arr4.same {w : World} {g : Nat} {f f' : Nat → Int} (h : Arr4 w g f) (e : ∀ m, m < 4 → f' m = f m) : Arr4 w g f' := ⟨fun m hm => (h.cell m hm).trans (by rw [e m hm]), h.thaw, h.lt⟩
theorem three_arrays (w : World) (a b : Nat → Int) : ∃ w3, (((w.alloc (Obj.cells #[Value.int IntKind.i64 (a 0), Value.int IntKind.i64 (a 1), Value.int IntKind.i64 (a 2), Value.int IntKind.i64 (a 3)] 75)).alloc (Obj.cells #[Value.int IntKind.i64 (b 0), Value.int IntKind.i64 (b 1), Value.int IntKind.i64 (b 2), Value.int IntKind.i64 (b 3)] 75)).alloc (Obj.cells #[Value.int IntKind.i64 0, Value.int IntKind.i64 0, Value.int IntKind.i64 0, Value.int IntKind.i64 0] 75)) = w3 ∧ Below w.heap.size w w3 ∧ w3.heap.size = w.heap.size + 3 ∧ Arr4 w3 w.heap.size a ∧ Arr4 w3 (w.heap.size + 1) b ∧ Arr4 w3 (w.heap.size + 1 + 1) (fun _ => 0) :=
  ⟨_, rfl, bA (bA (bA (Below.refl _ _) _) _) _, by simp,
   ⟨fun m hm => by rcases (by omega : m = 0 ∨ m = 1 ∨ m = 2 ∨ m = 3) with rfl | rfl | rfl | rfl <;> go_simp, fun i => by go_simp, by simp; omega⟩,
   ⟨fun m hm => by rcases (by omega : m = 0 ∨ m = 1 ∨ m = 2 ∨ m = 3) with rfl | rfl | rfl | rfl <;> go_simp, fun i => by go_simp, by simp⟩,
   ⟨fun m hm => by rcases (by omega : m = 0 ∨ m = 1 ∨ m = 2 ∨ m = 3) with rfl | rfl | rfl | rfl <;> go_simp, fun i => by go_simp, by simp⟩⟩
def plusTo (a b : Nat → Int) (k m : Nat) : Int := if m < k then a m + b m else a m

set_option maxRecDepth 100000 in
set_option maxHeartbeats 4000000 in
theorem plus_any (a b : Nat → Int) (w : World) (ha : ∀ m, m < 4 → -1000000 ≤ a m ∧ a m ≤ 1000000) (hb : ∀ m, m < 4 → -1000000 ≤ b m ∧ b m ≤ 1000000) :
    Calls Try.prog 73 #[.agg #[.int .i64 (a 0), .int .i64 (a 1), .int .i64 (a 2), .int .i64 (a 3)], .agg #[.int .i64 (b 0), .int .i64 (b 1), .int .i64 (b 2), .int .i64 (b 3)]] w fun e w' => e = .returned (.agg #[.int .i64 (a 0 + b 0), .int .i64 (a 1 + b 1), .int .i64 (a 2 + b 2), .int .i64 (a 3 + b 3)]) ∧ Below w.heap.size w w' := by
  obtain ⟨w3, hw3, hB3, hsz, hA, hBb, hR⟩ := three_arrays w a b
  have u0 := hBb.cell 0 (by omega); have u1 := hBb.cell 1 (by omega); have u2 := hBb.cell 2 (by omega); have u3 := hBb.cell 3 (by omega)
  have HA := Lib.hid ha; have HB := Lib.hid hb; have HB3 := Lib.hid hB3; have HAA := Lib.hid hA; have HRR := Lib.hid hR
  clear ha hb hB3 hA hBb hR
  go_enter Try.func73, Try.ntmps73
  go_wp2
  clear hw3 u0 u1 u2 u3
  go_loopw [8] (fun i wr => ∃ k : Nat, i = .int .i64 k ∧ k ≤ 4 ∧ Below w.heap.size w wr ∧ Arr4 wr w.heap.size (plusTo a b k) ∧ Arr4 wr (w.heap.size + 1 + 1) (fun _ => 0)) (fun i _ => 4 - (intOf i).toNat)
  case atStart => exact ⟨0, rfl, by omega, HB3.out, HAA.out.same (fun m _ => by simp [plusTo]), HRR.out⟩
  case round =>
    obtain ⟨k, rfl, hk, hbw, h1, h2⟩ := hrel
    have HW := Lib.hid hbw; have H1 := Lib.hid h1; have H2 := Lib.hid h2
    clear hbw h1 h2
    by_cases hlt : k < 4
    · rcases (by omega : k = 0 ∨ k = 1 ∨ k = 2 ∨ k = 3) with rfl | rfl | rfl | rfl
      · have c := H1.out.cell 0 (by omega)
        rw [show plusTo a b 0 0 = a 0 from rfl] at c
        have fz := H1.out.thaw
        have hs : IntKind.i64.wrap (a 0 + b 0) = a 0 + b 0 := IntWalk.i64_in _ (by have := HA.out 0 (by omega); have := HB.out 0 (by omega); omega)
        rw [show ((0 : Nat) : Int) = 0 from rfl]
        have ix : ∀ w, (Instr.index 75 (.agg #[.int .i64 (b 0), .int .i64 (b 1), .int .i64 (b 2), .int .i64 (b 3)]) (.int .i64 0)).run Try.prog w = .ok (.int .i64 (b 0)) w := fun _ => by kernel_rfl
        go_wp2
        go_roundw
        case rel => exact ⟨1, rfl, by omega, bS HW.out (by simp) _, H1.out.put (k := 0) (f' := plusTo a b 1) (by omega) rfl (fun m h4 hm => by unfold plusTo; by_cases g : m < 1 <;> by_cases g' : m < 0 <;> simp [g, g'] <;> omega), H2.out.keep (by omega)⟩
        case measure => simp [intOf]
      · have c := H1.out.cell 1 (by omega)
        rw [show plusTo a b 1 1 = a 1 from rfl] at c
        have fz := H1.out.thaw
        have hs : IntKind.i64.wrap (a 1 + b 1) = a 1 + b 1 := IntWalk.i64_in _ (by have := HA.out 1 (by omega); have := HB.out 1 (by omega); omega)
        rw [show ((1 : Nat) : Int) = 1 from rfl]
        have ix : ∀ w, (Instr.index 75 (.agg #[.int .i64 (b 0), .int .i64 (b 1), .int .i64 (b 2), .int .i64 (b 3)]) (.int .i64 1)).run Try.prog w = .ok (.int .i64 (b 1)) w := fun _ => by kernel_rfl
        go_wp2
        go_roundw
        case rel => exact ⟨2, rfl, by omega, bS HW.out (by simp) _, H1.out.put (k := 1) (f' := plusTo a b 2) (by omega) rfl (fun m h4 hm => by unfold plusTo; by_cases g : m < 2 <;> by_cases g' : m < 1 <;> simp [g, g'] <;> omega), H2.out.keep (by omega)⟩
        case measure => simp [intOf]
      · have c := H1.out.cell 2 (by omega)
        rw [show plusTo a b 2 2 = a 2 from rfl] at c
        have fz := H1.out.thaw
        have hs : IntKind.i64.wrap (a 2 + b 2) = a 2 + b 2 := IntWalk.i64_in _ (by have := HA.out 2 (by omega); have := HB.out 2 (by omega); omega)
        rw [show ((2 : Nat) : Int) = 2 from rfl]
        have ix : ∀ w, (Instr.index 75 (.agg #[.int .i64 (b 0), .int .i64 (b 1), .int .i64 (b 2), .int .i64 (b 3)]) (.int .i64 2)).run Try.prog w = .ok (.int .i64 (b 2)) w := fun _ => by kernel_rfl
        go_wp2
        go_roundw
        case rel => exact ⟨3, rfl, by omega, bS HW.out (by simp) _, H1.out.put (k := 2) (f' := plusTo a b 3) (by omega) rfl (fun m h4 hm => by unfold plusTo; by_cases g : m < 3 <;> by_cases g' : m < 2 <;> simp [g, g'] <;> omega), H2.out.keep (by omega)⟩
        case measure => simp [intOf]
      · have c := H1.out.cell 3 (by omega)
        rw [show plusTo a b 3 3 = a 3 from rfl] at c
        have fz := H1.out.thaw
        have hs : IntKind.i64.wrap (a 3 + b 3) = a 3 + b 3 := IntWalk.i64_in _ (by have := HA.out 3 (by omega); have := HB.out 3 (by omega); omega)
        rw [show ((3 : Nat) : Int) = 3 from rfl]
        have ix : ∀ w, (Instr.index 75 (.agg #[.int .i64 (b 0), .int .i64 (b 1), .int .i64 (b 2), .int .i64 (b 3)]) (.int .i64 3)).run Try.prog w = .ok (.int .i64 (b 3)) w := fun _ => by kernel_rfl
        go_wp2
        go_roundw
        case rel => exact ⟨4, rfl, by omega, bS HW.out (by simp) _, H1.out.put (k := 3) (f' := plusTo a b 4) (by omega) rfl (fun m h4 hm => by unfold plusTo; by_cases g : m < 4 <;> by_cases g' : m < 3 <;> simp [g, g'] <;> omega), H2.out.keep (by omega)⟩
        case measure => simp [intOf]
    · obtain rfl : k = 4 := by omega
      have c0 := H1.out.cell 0 (by omega); have c1 := H1.out.cell 1 (by omega); have c2 := H1.out.cell 2 (by omega); have c3 := H1.out.cell 3 (by omega)
      rw [show plusTo a b 4 0 = a 0 + b 0 from rfl] at c0
      rw [show plusTo a b 4 1 = a 1 + b 1 from rfl] at c1
      rw [show plusTo a b 4 2 = a 2 + b 2 from rfl] at c2
      rw [show plusTo a b 4 3 = a 3 + b 3 from rfl] at c3
      have r0 := H2.out.cell 0 (by omega); have r1 := H2.out.cell 1 (by omega); have r2 := H2.out.cell 2 (by omega); have r3 := H2.out.cell 3 (by omega)
      have fr := H2.out.thaw
      have hl := H2.out.lt
      go_wp2
      refine bodyPost_ret (v := .agg #[.int .i64 (a 0 + b 0), .int .i64 (a 1 + b 1), .int .i64 (a 2 + b 2), .int .i64 (a 3 + b 3)]) ?_ rfl ?_
      case refine_2 =>
        refine ⟨rfl, ?_⟩
        iterate 4 (refine bS ?_ (by simp; try omega) _)
        exact HW.out
      simp [results, Try.results73, go_sem, r0, r1, r2, r3]
end Go.Proofs.Ytaaocomgmacjnaa
