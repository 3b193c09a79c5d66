/- What the 50 cells of a known are told in a walk; unheard. -/
import Derived.Test.YtmfbfcknnjbabaaB1
set_option linter.unusedSimpArgs false
set_option linter.unusedVariables false
namespace Go.Proofs.Ytmfbfcknnjbabaa
open Go.RowKit

def Z49 : List Int := List.replicate 49 0
theorem info76 : (Try.prog.info? 76).map (·.size) = some 50 := by kernel_rfl
theorem zero76 : (Try.prog.info? 76).map (·.zero) = some (some (.agg (kv 0 Z49))) := by kernel_rfl
theorem und76 : ∃ fs, Try.prog.underlying 76 = some (.struct fs) := ⟨_, Try.underlying76⟩
theorem built0 : Try.prog.built 76 [] = some (kv 0 Z49) := by kernel_rfl
theorem builtn (n : Int) : Try.prog.built 76 [(0, .int .i64 n)] = some (kv n Z49) := by kernel_rfl

/-- w' is w but for block g -/
structure Only (w w' : World) (g : Nat) : Prop where
  grown : w.grownBy w' (some g)
  size : w'.heap.size = w.heap.size

section
variable {ops : Array Oper} {rest : List Oper} {o : Oper} {a : Act} {w : World} {Q : Exit → Act → World → Prop}
theorem wpList_alloc_kv (hgd : o.guard = none) (ho : o.op = .alloc 76)
    (h : ∀ w', RowAt w' w.heap.size 0 Z49 → Below w.heap.size w w' → w'.heap.size = w.heap.size + 1 → wpList Try.prog ops Q rest (a.put o.dst (.pointer (some ⟨w.heap.size, 0, none⟩))) w') : wpList Try.prog ops Q (o :: rest) a w := by
  refine wpList_plain hgd fun K hK => ?_
  have hz := zero76
  cases hi : Try.prog.info? 76 with
  | none => simp [hi] at hz
  | some i =>
    have hz' : i.zero = some (.agg (kv 0 Z49)) := by simpa [hi] using hz
    have hrun : (Instr.alloc 76 true (.tuple #[])).run Try.prog w = .ok (.pointer (some ⟨w.heap.size, 0, none⟩)) (w.alloc (.cells (kv 0 Z49) 76)) := by
      simp [Instr.alloc, zeroValue, typeInfo, hi, hz', newVar, newRow, Value.cells, Sem.run_bind]
    unfold Oper.wp execOp
    simp only [ho, Sem.run_bind, hrun, Result.andThen_ok, Sem.run_pure]
    exact hK _ _ (h _ ⟨heap_alloc_new w _, rfl⟩ (bA (Below.refl _ _) _) (by simp))

theorem wpList_build_kv0 (hgd : o.guard = none) (ho : o.op = .build 76 #[])
    (h : wpList Try.prog ops Q rest (a.put o.dst (.agg (kv 0 Z49))) w) : wpList Try.prog ops Q (o :: rest) a w := by
  have e : Try.prog.built 76 ((#[] : Array (Nat × Operand)).map fun (i, x) => (i, a.eval x)).toList = some (kv 0 Z49) := by simpa using built0
  refine wpList_build hgd 76 #[] ho (by rw [e]; rfl) ?_
  rw [e]
  exact h
theorem wpList_build_kvn (hgd : o.guard = none) (x : Operand) (n : Int) (ho : o.op = .build 76 #[(0, x)]) (hx : a.eval x = .int .i64 n)
    (h : wpList Try.prog ops Q rest (a.put o.dst (.agg (kv n Z49))) w) : wpList Try.prog ops Q (o :: rest) a w := by
  have e : Try.prog.built 76 ((#[(0, x)] : Array (Nat × Operand)).map fun (i, x) => (i, a.eval x)).toList = some (kv n Z49) := by simpa [hx] using builtn n
  refine wpList_build hgd 76 #[(0, x)] ho (by rw [e]; rfl) ?_
  rw [e]
  exact h
theorem wpList_store_kv (hgd : o.guard = none) (x y : Operand) (ho : o.op = .store 76 x y) (g : Nat) (n n' : Int) (M M' : List Int) (hx : a.eval x = .pointer (some ⟨g, 0, none⟩)) (hy : a.eval y = .agg (kv n M)) (hl : M.length = 49)
    (hr : RowAt w g n' M') (h : ∀ w', RowAt w' g n M → Only w w' g → wpList Try.prog ops Q rest (a.put o.dst undef) w') : wpList Try.prog ops Q (o :: rest) a w := by
  refine wpList_store_row hgd 76 x y ho g (kv n M) hx hy 76 (kv n' M') hr.row (by rw [info76, kv_size, hl]) (by rw [kv_size, kv_size, hl, hr.len]) ?_ (h _ ⟨?_, hl⟩ ⟨?_, ?_⟩)
  · simp [kv, Value.oneCell']
  · have := hr.row
    simp [World.setRow, Array.getElem?_modify, this]
  · refine ⟨rfl, rfl, rfl, by simp [World.setRow], fun k hk hne => ?_⟩
    simp only [World.setRow, Array.getElem?_modify]
    rw [if_neg (fun e => hne (by rw [e]))]
  · simp [World.setRow]
theorem wpList_load_kv (hgd : o.guard = none) (x : Operand) (ho : o.op = .load 76 x) (g : Nat) (n : Int) (M : List Int) (hx : a.eval x = .pointer (some ⟨g, 0, none⟩)) (hr : RowAt w g n M)
    (h : wpList Try.prog ops Q rest (a.put o.dst (.agg (kv n M))) w) : wpList Try.prog ops Q (o :: rest) a w := by
  obtain ⟨fs, hu⟩ := und76
  exact wpList_load_row hgd 76 x ho g hx 76 (kv n M) (0, 0) _ hr.row hu rfl (by rw [info76, kv_size, hr.len]) h
end
theorem results_kv {fn : Func} {p : Tmp} {n : Int} {M : List Int} {w : World} {g : Nat} (h : fn.results = #[.cell p 76]) (tmps : Array Value) (hp : tmps.getD p undef = .pointer (some ⟨g, 0, none⟩)) (hr : RowAt w g n M) :
    (results fn tmps).run Try.prog w = .ok (.agg (kv n M)) w := by
  obtain ⟨fs, hu⟩ := und76
  exact results_cell_row h tmps w g 76 (kv n M) (0, 0) _ hp hr.row hu rfl (by rw [info76, kv_size, hr.len])

def uStep (M : List Int) (i : Nat) : List Int := if i / 7 ≠ i % 7 ∧ i % 7 ≠ 0 then M.set i 99 else M
def uIter : Nat → List Int
  | 0 => Z49
  | k + 1 => uStep (uIter k) k
def U49 : List Int := uIter 49
theorem uIter_len (k : Nat) : (uIter k).length = 49 := by
  induction k with
  | zero => rfl
  | succ k ih => simp only [uIter, uStep]; split <;> simp [ih]

theorem point_ex (n : Int) (w : World) (h0 : 0 ≤ n) (h1 : n ≤ 100) : Calls Try.prog 63 #[.int .i64 n] w fun e w' => e = .returned (.int .i64 (n + 1)) ∧ w = w' := by
  go_enter Try.func63, Try.ntmps63
  go_wp2
  go_ret
  exact ⟨rfl, rfl⟩

theorem only_below {a w w' : World} {g : Nat} (h : Below a.heap.size a w) (k : Only w w' g) (hg : a.heap.size ≤ g) : Below a.heap.size a w' := bG h k.grown hg
theorem RowAt.only {w w' : World} {g j : Nat} {n : Int} {M : List Int} (h : RowAt w j n M) (k : Only w w' g) (hne : j ≠ g) : RowAt w' j n M := ⟨(k.grown.block j h.lt (by simpa using hne)).trans h.row, h.len⟩

set_option maxRecDepth 100000 in
set_option maxHeartbeats 2000000 in
theorem unheard_any (n : Int) (w : World) :
    Calls Try.prog 94 #[.int .i64 n] w fun e w' => e = .returned (.agg (kv n U49)) ∧ Below w.heap.size w w' := by
  have tok1 : True := trivial
  go_enter Try.func94, Try.ntmps94
  go_wp2_with (first
    | (have _t := tok1; refine wpList_alloc_kv rfl rfl ?_; clear tok1 _t; intro w1 hr1 hb1 hz1; have HR1 := Lib.hid hr1; have HB1 := Lib.hid hb1; have HZ1 := Lib.hid hz1; clear hr1 hb1 hz1)
    | (refine wpList_alloc_kv rfl rfl ?_; intro w2 hr2 hb2 hz2; have HR2 := Lib.hid hr2; have HB2 := Lib.hid hb2; have HZ2 := Lib.hid hz2; clear hr2 hb2 hz2)
    | (refine wpList_build_kvn rfl _ n rfl rfl ?_)
    | (refine wpList_store_kv rfl _ _ rfl _ n 0 Z49 Z49 rfl rfl rfl HR2.out ?_; intro w3 hr3 ho3; have HR3 := Lib.hid hr3; have HO3 := Lib.hid ho3; clear hr3 ho3))
  have z1 := HZ1.out
  have z2 := HZ2.out
  have z3 := HO3.out.size
  have HB := Lib.hid (only_below (bT HB1.out HB2.out) HO3.out (by omega)); have HRA := Lib.hid ((HR1.out.below HB2.out (by omega)).only HO3.out (by omega))
  have zz : w1.heap.size + 1 ≤ w3.heap.size := by omega
  have zz0 : w.heap.size ≤ w1.heap.size := by omega
  have zn : w.heap.size ≠ w1.heap.size := by omega
  clear HR1 HB1 HZ1 HR2 HB2 HZ2 HO3 z1 z2 z3
  go_loopw [8] (fun i wr => ∃ f : Nat, i = .int .i64 f ∧ f ≤ 7 ∧ RowAt wr w1.heap.size n (uIter (f * 7)) ∧ w3.grownBy wr (some w1.heap.size)) (fun i _ => 7 - (intOf i).toNat)
  case atStart => exact ⟨0, rfl, by omega, HR3.out, gR _ _⟩
  case round =>
    obtain ⟨f, rfl, hf, hr, hg⟩ := hrel
    have HRR := Lib.hid hr; have HG := Lib.hid hg; clear hr hg
    by_cases hlt : f < 7
    · have f0 : (0 : Int) ≤ (f : Int) := by omega
      have f1 : (f : Int) < 7 := by omega
      go_wp2
      obtain ⟨wa, rfl⟩ : ∃ wa, wa = wr := ⟨_, rfl⟩
      go_loopw [11] (fun i wr => ∃ t : Nat, i = .int .i64 t ∧ t ≤ 7 ∧ RowAt wr w1.heap.size n (uIter (f * 7 + t)) ∧ w3.grownBy wr (some w1.heap.size)) (fun i _ => 7 - (intOf i).toNat)
      case atStart => exact ⟨0, rfl, by omega, HRR.out, HG.out⟩
      case round =>
        clear HRR HG
        obtain ⟨t, rfl, ht, hr, hg⟩ := hrel
        have HRR := Lib.hid hr; have HG := Lib.hid hg; clear hr hg
        by_cases htt : t < 7
        · have t0 : (0 : Int) ≤ (t : Int) := by omega
          have t1 : (t : Int) < 7 := by omega
          obtain ⟨y3, hy3⟩ : ∃ x, gt (uIter (f * 7 + t)) (f * 7 + t) = x := ⟨_, rfl⟩
          have c3 : wr.cell? ⟨w1.heap.size, 1 + f * 7 + t, none⟩ = some (.int .i64 y3) := by have := HRR.out.at f t hlt htt; rwa [hy3] at this
          have d3 := HRR.out.frozen (1 + f * 7 + t)
          clear hy3
          have e1 : (f * 7 + t) / 7 = f := by omega
          have e2 : (f * 7 + t) % 7 = t := by omega
          have E : uIter (f * 7 + (t + 1)) = uStep (uIter (f * 7 + t)) (f * 7 + t) := rfl
          by_cases h : f ≠ t ∧ t ≠ 0
          · have E2 : uIter (f * 7 + (t + 1)) = (uIter (f * 7 + t)).set (f * 7 + t) 99 := by rw [E]; unfold uStep; rw [e1, e2, if_pos h]
            have HE := Lib.hid E2
            obtain ⟨ha, hb⟩ := h
            have hc1 : ((f : Int) != (t : Int)) = true := by rw [bne_iff_ne]; omega
            have hc2 : ((t : Int) != 0) = true := by rw [bne_iff_ne]; omega
            clear E E2 e1 e2 ha hb
            go_wp2
            go_roundw
            case rel =>
              have hr := HRR.out.set (f * 7 + t) 99
              rw [← Nat.add_assoc, ← HE.out] at hr
              exact ⟨t + 1, by go_num, htt, hr, gS HG.out (.inl rfl) _⟩
            case measure => simp [intOf]; omega
          · have E2 : uIter (f * 7 + (t + 1)) = uIter (f * 7 + t) := by rw [E]; unfold uStep; rw [e1, e2, if_neg h]
            have HE := Lib.hid E2
            clear E E2 e1 e2
            by_cases hft : f = t
            · have hc1 : ((f : Int) != (t : Int)) = false := by rw [bne_eq_false_iff_eq]; omega
              clear h hft
              go_wp2
              go_roundw
              case rel => exact ⟨t + 1, by go_num, htt, by rw [HE.out]; exact HRR.out, HG.out⟩
              case measure => simp [intOf]; omega
            · have hc1 : ((f : Int) != (t : Int)) = true := by rw [bne_iff_ne]; omega
              have hc2 : ((t : Int) != 0) = false := by rw [bne_eq_false_iff_eq]; omega
              clear h hft
              go_wp2
              go_roundw
              case rel => exact ⟨t + 1, by go_num, htt, by rw [HE.out]; exact HRR.out, HG.out⟩
              case measure => simp [intOf]; omega
        · obtain rfl : t = 7 := by omega
          go_wp2
          go_roundw
          case rel => exact ⟨f + 1, by go_num, hlt, by rw [show (f + 1) * 7 = f * 7 + 7 by omega]; exact HRR.out, HG.out⟩
          case measure => simp [intOf]; omega
    · obtain rfl : f = 7 := by omega
      have hr : RowAt wr w1.heap.size n U49 := HRR.out
      have hra : RowAt wr w.heap.size 0 Z49 := ⟨(HG.out.block _ (by have := HRA.out.lt; omega) (by simpa using zn)).trans HRA.out.row, HRA.out.len⟩
      have HR := Lib.hid hr; have HRA2 := Lib.hid hra; clear hr hra
      go_wp2_with (first
        | (refine wpList_load_kv rfl _ rfl _ n U49 rfl HR.out ?_)
        | (refine wpList_store_kv rfl _ _ rfl _ n 0 U49 Z49 rfl rfl (uIter_len 49) HRA2.out ?_; intro w4 hr4 ho4; have HR4 := Lib.hid hr4; have HO4 := Lib.hid ho4; clear hr4 ho4))
      exact bodyPost_ret (v := .agg (kv n U49)) (results_kv Try.results94 _ rfl HR4.out) rfl ⟨rfl, only_below (bG HB.out HG.out zz0) HO4.out (Nat.le_refl _)⟩
end Go.Proofs.Ytmfbfcknnjbabaa
