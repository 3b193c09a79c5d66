/- The contract of bound: what k.bound(p, q, most) answers and leaves. What the 50 cells of a known are told in a walk; unheard. The contracts of add, differ and level. The contract of levels. -/
import Derived.Test.YtmfbfcknnjbabaaA8
import Derived.Deep.OwnRows
import Derived.StillTailTactics
set_option linter.unusedSimpArgs false
set_option linter.unusedVariables false
namespace Go.Proofs.Ytmfbfcknnjbabaa
open Go.RowKit

/-- the cells of a 'known': the number of wells, then the 49 numbers -/
def kv (n : Int) (M : List Int) : Array Value := (Value.int .i64 n :: M.map (Value.int .i64)).toArray
def gt (M : List Int) (i : Nat) : Int := M[i]?.getD 0
theorem kv_size (n : Int) (M : List Int) : (kv n M).size = M.length + 1 := by simp [kv]
theorem kv_at (n : Int) (M : List Int) (i : Nat) (h : i < M.length) : (kv n M)[1 + i]? = some (.int .i64 (gt M i)) := by
  simp [kv, gt, Nat.add_comm 1 i, h]
theorem kv_set (n : Int) (M : List Int) (i : Nat) (x : Int) : (kv n M).setIfInBounds (1 + i) (.int .i64 x) = kv n (M.set i x) := by
  simp [kv, Nat.add_comm 1 i, List.map_set]
structure RowAt (w : World) (g : Nat) (n : Int) (M : List Int) : Prop where
  row : w.heap[g]? = some (.cells (kv n M) 76 (0, 0))
  len : M.length = 49
theorem RowAt.cell {w : World} {g : Nat} {n : Int} {M : List Int} (h : RowAt w g n M) (i : Nat) (hi : i < 49) : w.cell? ⟨g, 1 + i, none⟩ = some (.int .i64 (gt M i)) := by
  rw [cell_of_row w g (1 + i) _ _ _ h.row, kv_at n M i (by rw [h.len]; exact hi)]
theorem RowAt.cell0 {w : World} {g : Nat} {n : Int} {M : List Int} (h : RowAt w g n M) : w.cell? ⟨g, 0, none⟩ = some (.int .i64 n) := by
  rw [cell_of_row w g 0 _ _ _ h.row]; simp [kv]
theorem RowAt.frozen {w : World} {g : Nat} {n : Int} {M : List Int} (h : RowAt w g n M) (i : Nat) : w.frozen? ⟨g, i, none⟩ = false := by
  simp [World.frozen?, h.row]
theorem RowAt.lt {w : World} {g : Nat} {n : Int} {M : List Int} (h : RowAt w g n M) : g < w.heap.size := (Array.getElem?_eq_some_iff.1 h.row).1
theorem RowAt.set {w : World} {g : Nat} {n : Int} {M : List Int} (h : RowAt w g n M) (i : Nat) (x : Int) : RowAt (w.setCell ⟨g, 1 + i, none⟩ (.int .i64 x)) g n (M.set i x) := by
  refine ⟨?_, by simp [h.len]⟩
  rw [← kv_set]
  simp [World.setCell, Array.getElem?_modify, h.row]
theorem RowAt.at {w : World} {g : Nat} {n : Int} {M : List Int} (h : RowAt w g n M) (a b : Nat) (ha : a < 7) (hb : b < 7) : w.cell? ⟨g, 1 + a * 7 + b, none⟩ = some (.int .i64 (gt M (a * 7 + b))) := by
  have t := h.cell (a * 7 + b) (by omega)
  rwa [← Nat.add_assoc] at t
theorem RowAt.drewN {w : World} {g : Nat} {n : Int} {M : List Int} (h : RowAt w g n M) (k : Nat) : RowAt (w.drewN k) g n M := ⟨h.row, h.len⟩
theorem RowAt.drew {w : World} {g : Nat} {n : Int} {M : List Int} (h : RowAt w g n M) : RowAt w.drew g n M := ⟨h.row, h.len⟩
theorem RowAt.below {w w' : World} {g B : Nat} {n : Int} {M : List Int} (h : RowAt w g n M) (hb : Below B w w') (hg : g < B) : RowAt w' g n M := ⟨(hb.block g hg).trans h.row, h.len⟩

theorem gD {a w : World} {row : Option Nat} (h : a.grownBy w row) (n : Nat) : a.grownBy (w.drewN n) row := ⟨h.os, h.tape, h.output, h.size, h.block⟩
theorem gd {a w : World} {row : Option Nat} (h : a.grownBy w row) : a.grownBy w.drew row := ⟨h.os, h.tape, h.output, h.size, h.block⟩
theorem gA {a w : World} {row : Option Nat} (h : a.grownBy w row) (o : Obj) : a.grownBy (w.alloc o) row :=
  ⟨h.os, h.tape, h.output, Nat.le_trans h.size (by simp), fun i hi hne => (Below.heap_alloc w o i (Nat.lt_of_lt_of_le hi h.size)).trans (h.block i hi hne)⟩
theorem gS {a w : World} {g : Nat} (h : a.grownBy w (some g)) {p : Addr} (hp : p.block = g ∨ a.heap.size ≤ p.block) (u : Value) : a.grownBy (w.setCell p u) (some g) :=
  ⟨h.os, h.tape, h.output, by simpa [World.setCell] using h.size, fun i hi hne => (Below.heap_setCell w p u i (by
    rintro rfl
    rcases hp with hp | hp
    · exact hne (by rw [hp])
    · omega)).trans (h.block i hi hne)⟩
theorem gR (w : World) (row : Option Nat) : w.grownBy w row := ⟨rfl, rfl, rfl, Nat.le_refl _, fun _ _ _ => rfl⟩
theorem gT {a b c : World} {g : Nat} (h : a.grownBy b (some g)) (k : b.grownBy c (some g)) : a.grownBy c (some g) :=
  ⟨k.os.trans h.os, k.tape.trans h.tape, k.output.trans h.output, Nat.le_trans h.size k.size, fun i hi hne => (k.block i (Nat.lt_of_lt_of_le hi h.size) hne).trans (h.block i hi hne)⟩
theorem gB {a b c : World} {row : Option Nat} (h : a.grownBy b row) (k : Below b.heap.size b c) : a.grownBy c row :=
  ⟨k.os.trans h.os, k.tape.trans h.tape, k.output.trans h.output, Nat.le_trans h.size k.size, fun i hi hne => (k.block i (Nat.lt_of_lt_of_le hi h.size)).trans (h.block i hi hne)⟩
/-- what a call does to a row that is newer than a -/
theorem bG {a b c : World} {g : Nat} (h : Below a.heap.size a b) (k : b.grownBy c (some g)) (hg : a.heap.size ≤ g) : Below a.heap.size a c :=
  ⟨k.os.trans h.os, k.tape.trans h.tape, k.output.trans h.output, Nat.le_trans h.size k.size, fun i hi => (k.block i (Nat.lt_of_lt_of_le hi h.size) (by simp; omega)).trans (h.block i hi)⟩

def bStep (p q : Nat) (most : Int) (M : List Int) (i : Nat) : List Int :=
  M.set i (min (gt M i) (wrap64 (wrap64 (gt M (i / 7 * 7 + p) + most) + gt M (q * 7 + i % 7))))
def bIter (p q : Nat) (most : Int) (M : List Int) : Nat → List Int
  | 0 => M
  | k + 1 => bStep p q most (bIter p q most M k) k
/-- what k.bound(p, q, most) answers and leaves -/
def bnd (M : List Int) (p q : Nat) (most : Int) : Bool × List Int :=
  if wrap64 (most + gt M (q * 7 + p)) < 0 then (false, M) else if gt M (p * 7 + q) ≤ most then (true, M) else (true, bIter p q most M 49)

set_option maxRecDepth 100000 in
set_option maxHeartbeats 2000000 in
theorem bound_any (n : Int) (M : List Int) (g p q : Nat) (most : Int) (w : World) (hp : p < 7) (hq : q < 7) (hr : RowAt w g n M) :
    Calls Try.prog 102 #[.pointer (some ⟨g, 0, none⟩), .int .i64 p, .int .i64 q, .int .i64 most] w fun e w' =>
      e = .returned (.bool (bnd M p q most).1) ∧ RowAt w' g n (bnd M p q most).2 ∧ w.grownBy w' (some g) := by
  have c1 := hr.at q p hq hp
  have c2 := hr.at p q hp hq
  have HR := Lib.hid hr; clear hr
  obtain ⟨x1, hx1⟩ : ∃ x, gt M (q * 7 + p) = x := ⟨_, rfl⟩
  obtain ⟨x2, hx2⟩ : ∃ x, gt M (p * 7 + q) = x := ⟨_, rfl⟩
  rw [hx1] at c1; rw [hx2] at c2
  have HX1 := Lib.hid hx1; have HX2 := Lib.hid hx2; clear hx1 hx2
  by_cases h1 : wrap64 (most + x1) < 0
  · have hb : bnd M p q most = (false, M) := by simp only [bnd, HX1.out, if_pos h1]
    have HBN := Lib.hid hb; clear hb
    go_enter Try.func102, Try.ntmps102
    go_wp2
    go_ret
    rw [HBN.out]
    exact ⟨rfl, HR.out, gR _ _⟩
  · by_cases h2 : x2 ≤ most
    · have hb : bnd M p q most = (true, M) := by simp only [bnd, HX1.out, HX2.out, if_neg h1, if_pos h2]
      have HBN := Lib.hid hb; clear hb
      go_enter Try.func102, Try.ntmps102
      go_wp2
      go_ret
      rw [HBN.out]
      exact ⟨rfl, HR.out, gR _ _⟩
    · have hb : bnd M p q most = (true, bIter p q most M 49) := by simp only [bnd, HX1.out, HX2.out, if_neg h1, if_neg h2]
      have HBN := Lib.hid hb; clear hb
      have p0 : (0 : Int) ≤ (p : Int) := by omega
      have p1 : (p : Int) < 7 := by omega
      have q0 : (0 : Int) ≤ (q : Int) := by omega
      have q1 : (q : Int) < 7 := by omega
      go_enter Try.func102, Try.ntmps102
      go_wp2
      clear c1 c2 h1 h2
      go_loopw [33] (fun i wr => ∃ f : Nat, i = .int .i64 f ∧ f ≤ 7 ∧ RowAt wr g n (bIter p q most M (f * 7)) ∧ w.grownBy wr (some g)) (fun i _ => 7 - (intOf i).toNat)
      case atStart => exact ⟨0, rfl, by omega, HR.out, gR _ _⟩
      case round =>
        obtain ⟨f, rfl, hf, hr, hg⟩ := hrel
        have HRR := Lib.hid hr; have HG := Lib.hid hg; clear hr hg
        by_cases hlt : f < 7
        · have f0 : (0 : Int) ≤ (f : Int) := by omega
          have f1 : (f : Int) < 7 := by omega
          go_wp2
          obtain ⟨wa, rfl⟩ : ∃ wa, wa = wr := ⟨_, rfl⟩
          go_loopw [36] (fun i wr => ∃ t : Nat, i = .int .i64 t ∧ t ≤ 7 ∧ RowAt wr g n (bIter p q most M (f * 7 + t)) ∧ w.grownBy wr (some g)) (fun i _ => 7 - (intOf i).toNat)
          case atStart => exact ⟨0, rfl, by omega, HRR.out, HG.out⟩
          case round =>
            clear HRR HG
            obtain ⟨t, rfl, ht, hr, hg⟩ := hrel
            have HRR := Lib.hid hr; have HG := Lib.hid hg; clear hr hg
            by_cases htt : t < 7
            · have t0 : (0 : Int) ≤ (t : Int) := by omega
              have t1 : (t : Int) < 7 := by omega
              obtain ⟨y1, hy1⟩ : ∃ x, gt (bIter p q most M (f * 7 + t)) (f * 7 + p) = x := ⟨_, rfl⟩
              obtain ⟨y2, hy2⟩ : ∃ x, gt (bIter p q most M (f * 7 + t)) (q * 7 + t) = x := ⟨_, rfl⟩
              obtain ⟨y3, hy3⟩ : ∃ x, gt (bIter p q most M (f * 7 + t)) (f * 7 + t) = x := ⟨_, rfl⟩
              have c1 := HRR.out.at f p hlt hp
              have c2 := HRR.out.at q t hq htt
              have c3 := HRR.out.at f t hlt htt
              have d3 := HRR.out.frozen (1 + f * 7 + t)
              rw [hy1] at c1; rw [hy2] at c2; rw [hy3] at c3
              have Y1 := Lib.hid hy1; have Y2 := Lib.hid hy2; have Y3 := Lib.hid hy3; clear hy1 hy2 hy3
              go_wp2
              go_quiet (fail)
              go_wp2
              go_region
              generalize hm : (if wrap64 (wrap64 (y1 + most) + y2) < y3 then wrap64 (wrap64 (y1 + most) + y2) else y3) = mval
              have HM := Lib.hid hm; clear hm c1 c2 c3 d3
              go_wp2
              go_roundw
              case rel =>
                refine ⟨t + 1, by go_num, htt, ?_, gS (gD HG.out _) (.inl rfl) _⟩
                have hr := (HRR.out.drewN (nq + 1)).set (f * 7 + t) mval
                have e1 : (f * 7 + t) / 7 * 7 + p = f * 7 + p := by omega
                have e2 : q * 7 + (f * 7 + t) % 7 = q * 7 + t := by omega
                have e3 : bIter p q most M (f * 7 + (t + 1)) = (bIter p q most M (f * 7 + t)).set (f * 7 + t) mval := by
                  rw [show f * 7 + (t + 1) = (f * 7 + t) + 1 from rfl]
                  show bStep p q most (bIter p q most M (f * 7 + t)) (f * 7 + t) = _
                  unfold bStep
                  rw [e1, e2, Y1.out, Y2.out, Y3.out, ← HM.out]
                  congr 1
                  omega
                rw [e3]
                rw [← Nat.add_assoc] at hr
                exact hr
              case measure => simp [intOf]; omega
            · obtain rfl : t = 7 := by omega
              go_wp2
              go_roundw
              case rel => exact ⟨f + 1, by go_num, hlt, by rw [show (f + 1) * 7 = f * 7 + 7 by omega]; exact HRR.out, HG.out⟩
              case measure => simp [intOf]; omega
        · go_wp2
          go_ret
          obtain rfl : f = 7 := by omega
          have hr := HRR.out
          rw [show 7 * 7 = 49 from rfl] at hr
          have hg := HG.out
          rw [HBN.out]
          generalize bIter p q most M 49 = N at hr
          exact ⟨rfl, hr, hg⟩
end Go.Proofs.Ytmfbfcknnjbabaa

namespace Go.Proofs.Ytmfbfcknnjbabaa
open Go.RowKit

def Z49 : List Int := List.replicate 49 0
theorem info76 : (Try.prog.info? 76).map (·.size) = some 50 := by kernel_rfl
theorem zero76 : (Try.prog.info? 76).map (·.zero) = some (some (.agg (kv 0 Z49))) := by kernel_rfl
theorem und76 : ∃ fs, Try.prog.underlying 76 = some (.struct fs) := ⟨_, Try.underlying76⟩
theorem built0 : Try.prog.built 76 [] = some (kv 0 Z49) := by kernel_rfl
theorem builtn (n : Int) : Try.prog.built 76 [(0, .int .i64 n)] = some (kv n Z49) := by kernel_rfl

/-- w' is w but for block g -/
structure Only (w w' : World) (g : Nat) : Prop where
  grown : w.grownBy w' (some g)
  size : w'.heap.size = w.heap.size

section
variable {ops : Array Oper} {rest : List Oper} {o : Oper} {a : Act} {w : World} {Q : Exit → Act → World → Prop}
theorem wpList_alloc_kv (hgd : o.guard = none) (ho : o.op = .alloc 76)
    (h : ∀ w', RowAt w' w.heap.size 0 Z49 → Below w.heap.size w w' → w'.heap.size = w.heap.size + 1 → wpList Try.prog ops Q rest (a.put o.dst (.pointer (some ⟨w.heap.size, 0, none⟩))) w') : wpList Try.prog ops Q (o :: rest) a w := by
  refine wpList_plain hgd fun K hK => ?_
  have hz := zero76
  cases hi : Try.prog.info? 76 with
  | none => simp [hi] at hz
  | some i =>
    have hz' : i.zero = some (.agg (kv 0 Z49)) := by simpa [hi] using hz
    have hrun : (Instr.alloc 76 true (.tuple #[])).run Try.prog w = .ok (.pointer (some ⟨w.heap.size, 0, none⟩)) (w.alloc (.cells (kv 0 Z49) 76)) := by
      simp [Instr.alloc, zeroValue, typeInfo, hi, hz', newVar, newRow, Value.cells, Sem.run_bind]
    unfold Oper.wp execOp
    simp only [ho, Sem.run_bind, hrun, Result.andThen_ok, Sem.run_pure]
    exact hK _ _ (h _ ⟨heap_alloc_new w _, rfl⟩ (bA (Below.refl _ _) _) (by simp))

theorem wpList_build_kv0 (hgd : o.guard = none) (ho : o.op = .build 76 #[])
    (h : wpList Try.prog ops Q rest (a.put o.dst (.agg (kv 0 Z49))) w) : wpList Try.prog ops Q (o :: rest) a w := by
  have e : Try.prog.built 76 ((#[] : Array (Nat × Operand)).map fun (i, x) => (i, a.eval x)).toList = some (kv 0 Z49) := by simpa using built0
  refine wpList_build hgd 76 #[] ho (by rw [e]; rfl) ?_
  rw [e]
  exact h
theorem wpList_build_kvn (hgd : o.guard = none) (x : Operand) (n : Int) (ho : o.op = .build 76 #[(0, x)]) (hx : a.eval x = .int .i64 n)
    (h : wpList Try.prog ops Q rest (a.put o.dst (.agg (kv n Z49))) w) : wpList Try.prog ops Q (o :: rest) a w := by
  have e : Try.prog.built 76 ((#[(0, x)] : Array (Nat × Operand)).map fun (i, x) => (i, a.eval x)).toList = some (kv n Z49) := by simpa [hx] using builtn n
  refine wpList_build hgd 76 #[(0, x)] ho (by rw [e]; rfl) ?_
  rw [e]
  exact h
theorem wpList_store_kv (hgd : o.guard = none) (x y : Operand) (ho : o.op = .store 76 x y) (g : Nat) (n n' : Int) (M M' : List Int) (hx : a.eval x = .pointer (some ⟨g, 0, none⟩)) (hy : a.eval y = .agg (kv n M)) (hl : M.length = 49)
    (hr : RowAt w g n' M') (h : ∀ w', RowAt w' g n M → Only w w' g → wpList Try.prog ops Q rest (a.put o.dst undef) w') : wpList Try.prog ops Q (o :: rest) a w := by
  refine wpList_store_row hgd 76 x y ho g (kv n M) hx hy 76 (kv n' M') hr.row (by rw [info76, kv_size, hl]) (by rw [kv_size, kv_size, hl, hr.len]) ?_ (h _ ⟨?_, hl⟩ ⟨?_, ?_⟩)
  · simp [kv, Value.oneCell']
  · have := hr.row
    simp [World.setRow, Array.getElem?_modify, this]
  · refine ⟨rfl, rfl, rfl, by simp [World.setRow], fun k hk hne => ?_⟩
    simp only [World.setRow, Array.getElem?_modify]
    rw [if_neg (fun e => hne (by rw [e]))]
  · simp [World.setRow]
theorem wpList_load_kv (hgd : o.guard = none) (x : Operand) (ho : o.op = .load 76 x) (g : Nat) (n : Int) (M : List Int) (hx : a.eval x = .pointer (some ⟨g, 0, none⟩)) (hr : RowAt w g n M)
    (h : wpList Try.prog ops Q rest (a.put o.dst (.agg (kv n M))) w) : wpList Try.prog ops Q (o :: rest) a w := by
  obtain ⟨fs, hu⟩ := und76
  exact wpList_load_row hgd 76 x ho g hx 76 (kv n M) (0, 0) _ hr.row hu rfl (by rw [info76, kv_size, hr.len]) h
end
theorem results_kv {fn : Func} {p : Tmp} {n : Int} {M : List Int} {w : World} {g : Nat} (h : fn.results = #[.cell p 76]) (tmps : Array Value) (hp : tmps.getD p undef = .pointer (some ⟨g, 0, none⟩)) (hr : RowAt w g n M) :
    (results fn tmps).run Try.prog w = .ok (.agg (kv n M)) w := by
  obtain ⟨fs, hu⟩ := und76
  exact results_cell_row h tmps w g 76 (kv n M) (0, 0) _ hp hr.row hu rfl (by rw [info76, kv_size, hr.len])

def uStep (M : List Int) (i : Nat) : List Int := if i / 7 ≠ i % 7 ∧ i % 7 ≠ 0 then M.set i 99 else M
def uIter : Nat → List Int
  | 0 => Z49
  | k + 1 => uStep (uIter k) k
def U49 : List Int := uIter 49
theorem uIter_len (k : Nat) : (uIter k).length = 49 := by
  induction k with
  | zero => rfl
  | succ k ih => simp only [uIter, uStep]; split <;> simp [ih]

theorem point_ex (n : Int) (w : World) (h0 : 0 ≤ n) (h1 : n ≤ 100) : Calls Try.prog 63 #[.int .i64 n] w fun e w' => e = .returned (.int .i64 (n + 1)) ∧ w = w' := by
  go_enter Try.func63, Try.ntmps63
  go_wp2
  go_ret
  exact ⟨rfl, rfl⟩

theorem only_below {a w w' : World} {g : Nat} (h : Below a.heap.size a w) (k : Only w w' g) (hg : a.heap.size ≤ g) : Below a.heap.size a w' := bG h k.grown hg
theorem RowAt.only {w w' : World} {g j : Nat} {n : Int} {M : List Int} (h : RowAt w j n M) (k : Only w w' g) (hne : j ≠ g) : RowAt w' j n M := ⟨(k.grown.block j h.lt (by simpa using hne)).trans h.row, h.len⟩

set_option maxRecDepth 100000 in
set_option maxHeartbeats 2000000 in
theorem unheard_any (n : Int) (w : World) :
    Calls Try.prog 94 #[.int .i64 n] w fun e w' => e = .returned (.agg (kv n U49)) ∧ Below w.heap.size w w' := by
  have tok1 : True := trivial
  go_enter Try.func94, Try.ntmps94
  go_wp2_with (first
    | (have _t := tok1; refine wpList_alloc_kv rfl rfl ?_; clear tok1 _t; intro w1 hr1 hb1 hz1; have HR1 := Lib.hid hr1; have HB1 := Lib.hid hb1; have HZ1 := Lib.hid hz1; clear hr1 hb1 hz1)
    | (refine wpList_alloc_kv rfl rfl ?_; intro w2 hr2 hb2 hz2; have HR2 := Lib.hid hr2; have HB2 := Lib.hid hb2; have HZ2 := Lib.hid hz2; clear hr2 hb2 hz2)
    | (refine wpList_build_kvn rfl _ n rfl rfl ?_)
    | (refine wpList_store_kv rfl _ _ rfl _ n 0 Z49 Z49 rfl rfl rfl HR2.out ?_; intro w3 hr3 ho3; have HR3 := Lib.hid hr3; have HO3 := Lib.hid ho3; clear hr3 ho3))
  have z1 := HZ1.out
  have z2 := HZ2.out
  have z3 := HO3.out.size
  have HB := Lib.hid (only_below (bT HB1.out HB2.out) HO3.out (by omega)); have HRA := Lib.hid ((HR1.out.below HB2.out (by omega)).only HO3.out (by omega))
  have zz : w1.heap.size + 1 ≤ w3.heap.size := by omega
  have zz0 : w.heap.size ≤ w1.heap.size := by omega
  have zn : w.heap.size ≠ w1.heap.size := by omega
  clear HR1 HB1 HZ1 HR2 HB2 HZ2 HO3 z1 z2 z3
  go_loopw [8] (fun i wr => ∃ f : Nat, i = .int .i64 f ∧ f ≤ 7 ∧ RowAt wr w1.heap.size n (uIter (f * 7)) ∧ w3.grownBy wr (some w1.heap.size)) (fun i _ => 7 - (intOf i).toNat)
  case atStart => exact ⟨0, rfl, by omega, HR3.out, gR _ _⟩
  case round =>
    obtain ⟨f, rfl, hf, hr, hg⟩ := hrel
    have HRR := Lib.hid hr; have HG := Lib.hid hg; clear hr hg
    by_cases hlt : f < 7
    · have f0 : (0 : Int) ≤ (f : Int) := by omega
      have f1 : (f : Int) < 7 := by omega
      go_wp2
      obtain ⟨wa, rfl⟩ : ∃ wa, wa = wr := ⟨_, rfl⟩
      go_loopw [11] (fun i wr => ∃ t : Nat, i = .int .i64 t ∧ t ≤ 7 ∧ RowAt wr w1.heap.size n (uIter (f * 7 + t)) ∧ w3.grownBy wr (some w1.heap.size)) (fun i _ => 7 - (intOf i).toNat)
      case atStart => exact ⟨0, rfl, by omega, HRR.out, HG.out⟩
      case round =>
        clear HRR HG
        obtain ⟨t, rfl, ht, hr, hg⟩ := hrel
        have HRR := Lib.hid hr; have HG := Lib.hid hg; clear hr hg
        by_cases htt : t < 7
        · have t0 : (0 : Int) ≤ (t : Int) := by omega
          have t1 : (t : Int) < 7 := by omega
          obtain ⟨y3, hy3⟩ : ∃ x, gt (uIter (f * 7 + t)) (f * 7 + t) = x := ⟨_, rfl⟩
          have c3 : wr.cell? ⟨w1.heap.size, 1 + f * 7 + t, none⟩ = some (.int .i64 y3) := by have := HRR.out.at f t hlt htt; rwa [hy3] at this
          have d3 := HRR.out.frozen (1 + f * 7 + t)
          clear hy3
          have e1 : (f * 7 + t) / 7 = f := by omega
          have e2 : (f * 7 + t) % 7 = t := by omega
          have E : uIter (f * 7 + (t + 1)) = uStep (uIter (f * 7 + t)) (f * 7 + t) := rfl
          by_cases h : f ≠ t ∧ t ≠ 0
          · have E2 : uIter (f * 7 + (t + 1)) = (uIter (f * 7 + t)).set (f * 7 + t) 99 := by rw [E]; unfold uStep; rw [e1, e2, if_pos h]
            have HE := Lib.hid E2
            obtain ⟨ha, hb⟩ := h
            have hc1 : ((f : Int) != (t : Int)) = true := by rw [bne_iff_ne]; omega
            have hc2 : ((t : Int) != 0) = true := by rw [bne_iff_ne]; omega
            clear E E2 e1 e2 ha hb
            go_wp2
            go_roundw
            case rel =>
              have hr := HRR.out.set (f * 7 + t) 99
              rw [← Nat.add_assoc, ← HE.out] at hr
              exact ⟨t + 1, by go_num, htt, hr, gS HG.out (.inl rfl) _⟩
            case measure => simp [intOf]; omega
          · have E2 : uIter (f * 7 + (t + 1)) = uIter (f * 7 + t) := by rw [E]; unfold uStep; rw [e1, e2, if_neg h]
            have HE := Lib.hid E2
            clear E E2 e1 e2
            by_cases hft : f = t
            · have hc1 : ((f : Int) != (t : Int)) = false := by rw [bne_eq_false_iff_eq]; omega
              clear h hft
              go_wp2
              go_roundw
              case rel => exact ⟨t + 1, by go_num, htt, by rw [HE.out]; exact HRR.out, HG.out⟩
              case measure => simp [intOf]; omega
            · have hc1 : ((f : Int) != (t : Int)) = true := by rw [bne_iff_ne]; omega
              have hc2 : ((t : Int) != 0) = false := by rw [bne_eq_false_iff_eq]; omega
              clear h hft
              go_wp2
              go_roundw
              case rel => exact ⟨t + 1, by go_num, htt, by rw [HE.out]; exact HRR.out, HG.out⟩
              case measure => simp [intOf]; omega
        · obtain rfl : t = 7 := by omega
          go_wp2
          go_roundw
          case rel => exact ⟨f + 1, by go_num, hlt, by rw [show (f + 1) * 7 = f * 7 + 7 by omega]; exact HRR.out, HG.out⟩
          case measure => simp [intOf]; omega
    · obtain rfl : f = 7 := by omega
      have hr : RowAt wr w1.heap.size n U49 := HRR.out
      have hra : RowAt wr w.heap.size 0 Z49 := ⟨(HG.out.block _ (by have := HRA.out.lt; omega) (by simpa using zn)).trans HRA.out.row, HRA.out.len⟩
      have HR := Lib.hid hr; have HRA2 := Lib.hid hra; clear hr hra
      go_wp2_with (first
        | (refine wpList_load_kv rfl _ rfl _ n U49 rfl HR.out ?_)
        | (refine wpList_store_kv rfl _ _ rfl _ n 0 U49 Z49 rfl rfl (uIter_len 49) HRA2.out ?_; intro w4 hr4 ho4; have HR4 := Lib.hid hr4; have HO4 := Lib.hid ho4; clear hr4 ho4))
      exact bodyPost_ret (v := .agg (kv n U49)) (results_kv Try.results94 _ rfl HR4.out) rfl ⟨rfl, only_below (bG HB.out HG.out zz0) HO4.out (Nat.le_refl _)⟩
end Go.Proofs.Ytmfbfcknnjbabaa

namespace Go.Proofs.Ytmfbfcknnjbabaa
open Go.RowKit

def addW (M : List Int) (f t : Nat) (lo hi : Int) : Bool × List Int :=
  let r := bnd M f t hi
  if r.1 then bnd r.2 t f (wrap64 (-lo)) else (false, r.2)

theorem gcell {w w' : World} {g : Nat} (h : w.grownBy w' (some g)) {b o : Nat} (hb : b < w.heap.size) (hne : b ≠ g) : w'.cell? ⟨b, o, none⟩ = w.cell? ⟨b, o, none⟩ :=
  World.cell?_of_block (h.block b hb (by simpa using hne))

theorem box_word (w : World) (f t lo hi : Int) :
    ∃ w1, w.alloc (Obj.cells #[.int .i64 f, .int .i64 t, .int .i64 lo, .int .i64 hi] 111) = w1 ∧ Below w.heap.size w w1 ∧ w1.heap.size = w.heap.size + 1 ∧
      w1.cell? ⟨w.heap.size, 0, none⟩ = some (.int .i64 f) ∧ w1.cell? ⟨w.heap.size, 1, none⟩ = some (.int .i64 t) ∧ w1.cell? ⟨w.heap.size, 2, none⟩ = some (.int .i64 lo) ∧ w1.cell? ⟨w.heap.size, 3, none⟩ = some (.int .i64 hi) :=
  ⟨_, rfl, bA (Below.refl _ _) _, by simp, by go_simp, by go_simp, by go_simp, by go_simp⟩

set_option maxRecDepth 100000 in
set_option maxHeartbeats 1000000 in
theorem add_any (n : Int) (M : List Int) (g f t : Nat) (lo hi : Int) (w : World) (hf : f < 7) (ht : t < 7) (hr : RowAt w g n M) :
    Calls Try.prog 95 #[.pointer (some ⟨g, 0, none⟩), .agg #[.int .i64 f, .int .i64 t, .int .i64 lo, .int .i64 hi]] w fun e w' =>
      e = .returned (.bool (addW M f t lo hi).1) ∧ RowAt w' g n (addW M f t lo hi).2 ∧ w.grownBy w' (some g) := by
  obtain ⟨w1, hw1, hb1, hz, k0, k1, k2, k3⟩ := box_word w f t lo hi
  have hgl := hr.lt
  have hr1 := hr.below hb1 hgl
  have hc := bound_any n M g f t hi w1 hf ht hr1
  have hg0 : w.grownBy w1 (some g) := gB (gR w _) hb1
  have hl : w.heap.size < w1.heap.size := by omega
  have hne : w.heap.size ≠ g := by omega
  cases hbn : bnd M f t hi with
  | mk b1 M1 =>
    rw [hbn] at hc
    dsimp only at hc
    cases b1 with
    | false =>
      have e : addW M f t lo hi = (false, M1) := by simp [addW, hbn]
      have HE := Lib.hid e; have HC := Lib.hid hc; have HG0 := Lib.hid hg0
      clear hbn hc hg0 hb1 hr1 hr e hz hgl
      go_enter Try.func95, Try.ntmps95
      go_wp2_with (go_at_call 102; refine HC.out.mono ?_; rintro e w2 ⟨rfl, hr2, hg2⟩; have HR2 := Lib.hid hr2; have HG2 := Lib.hid hg2; clear hr2 hg2)
      go_ret
      rw [HE.out]
      exact ⟨rfl, HR2.out, gT HG0.out HG2.out⟩
    | true =>
      have hc2 : ∀ w2, RowAt w2 g n M1 → Calls Try.prog 102 #[.pointer (some ⟨g, 0, none⟩), .int .i64 t, .int .i64 f, .int .i64 (wrap64 (-lo))] w2 fun e w' => e = .returned (.bool (bnd M1 t f (wrap64 (-lo))).1) ∧ RowAt w' g n (bnd M1 t f (wrap64 (-lo))).2 ∧ w2.grownBy w' (some g) := fun w2 h2 => bound_any n M1 g t f _ w2 ht hf h2
      have e : addW M f t lo hi = bnd M1 t f (wrap64 (-lo)) := by simp [addW, hbn]
      cases hb2 : bnd M1 t f (wrap64 (-lo)) with
      | mk b2 M2 =>
        rw [hb2] at hc2 e
        dsimp only at hc2
        have HE := Lib.hid e; have HC := Lib.hid hc; have HC2 := Lib.hid hc2; have HG0 := Lib.hid hg0
        clear hbn hb2 hc hc2 hg0 hb1 hr1 hr e hz hgl
        have tok1 : True := trivial
        go_enter Try.func95, Try.ntmps95
        go_wp2_with (first
          | (go_at_call 102; have _t := tok1; clear tok1 _t; refine HC.out.mono ?_; rintro e w2 ⟨rfl, hr2, hg2⟩; have c0 := (gcell (o := 0) hg2 hl hne).trans k0; have c1 := (gcell (o := 1) hg2 hl hne).trans k1; have c2 := (gcell (o := 2) hg2 hl hne).trans k2; have HR2 := Lib.hid hr2; have HG2 := Lib.hid hg2; clear hr2 hg2)
          | (go_at_call 102; refine (HC2.out _ HR2.out).mono ?_; rintro e w3 ⟨rfl, hr3, hg3⟩; have HR3 := Lib.hid hr3; have HG3 := Lib.hid hg3; clear hr3 hg3))
        go_ret
        rw [HE.out]
        exact ⟨rfl, HR3.out, gT HG0.out (gT HG2.out HG3.out)⟩

def dif (M : List Int) (p q : Nat) : Int × Int := (wrap64 (-gt M (q * 7 + p)), gt M (p * 7 + q))

set_option maxRecDepth 100000 in
set_option maxHeartbeats 1000000 in
theorem differ_any (n : Int) (M : List Int) (g p q : Nat) (w : World) (hp : p < 7) (hq : q < 7) (hr : RowAt w g n M) :
    Calls Try.prog 62 #[.pointer (some ⟨g, 0, none⟩), .int .i64 p, .int .i64 q] w fun e w' =>
      e = .returned (.agg #[.int .i64 (dif M p q).1, .int .i64 (dif M p q).2]) ∧ Below w.heap.size w w' := by
  unfold dif
  have p0 : (0 : Int) ≤ (p : Int) := by omega
  have p1 : (p : Int) < 7 := by omega
  have q0 : (0 : Int) ≤ (q : Int) := by omega
  have q1 : (q : Int) < 7 := by omega
  obtain ⟨x1, hx1⟩ : ∃ x, gt M (q * 7 + p) = x := ⟨_, rfl⟩
  obtain ⟨x2, hx2⟩ : ∃ x, gt M (p * 7 + q) = x := ⟨_, rfl⟩
  have c1 := hr.at q p hq hp
  have c2 := hr.at p q hp hq
  rw [hx1] at c1 ⊢; rw [hx2] at c2 ⊢
  have hl := hr.lt
  clear hx1 hx2 hr
  go_enter Try.func62, Try.ntmps62
  go_wp2
  go_region
  go_wp2
  exact bodyPost_ret (v := .agg #[.int .i64 (wrap64 (-x1)), .int .i64 x2]) (by simp [results, Try.results62, go_sem]) rfl ⟨rfl, by repeat (first | exact Below.refl _ _ | refine bA ?_ _ | refine bd ?_)⟩

set_option maxRecDepth 100000 in
set_option maxHeartbeats 1000000 in
theorem level_any (n : Int) (M : List Int) (g q : Nat) (w : World) (hq : q < 6) (hr : RowAt w g n M) :
    Calls Try.prog 59 #[.pointer (some ⟨g, 0, none⟩), .int .i64 q] w fun e w' =>
      e = .returned (.agg #[.int .i64 (dif M 0 (q + 1)).1, .int .i64 (dif M 0 (q + 1)).2]) ∧ Below w.heap.size w w' := by
  have hd : ∀ w2, Below w.heap.size w w2 → Calls Try.prog 62 #[.pointer (some ⟨g, 0, none⟩), .int .i64 0, .int .i64 ((q : Int) + 1)] w2 fun e w' =>
      e = .returned (.agg #[.int .i64 (dif M 0 (q + 1)).1, .int .i64 (dif M 0 (q + 1)).2]) ∧ Below w2.heap.size w2 w' := fun w2 h2 => differ_any n M g 0 (q + 1) w2 (by omega) (by omega) (hr.below h2 hr.lt)
  obtain ⟨⟨y1, y2⟩, hy⟩ : ∃ y, dif M 0 (q + 1) = y := ⟨_, rfl⟩
  rw [hy] at hd ⊢
  have HD := Lib.hid hd
  clear hd hy hr
  go_enter Try.func59, Try.ntmps59
  go_wp2_with (first
    | (go_at_call 63; refine (point_ex _ _ (by omega) (by omega)).mono ?_; rintro e w2 ⟨rfl, rfl⟩)
    | (go_at_call 62; refine (HD.out _ (bA (Below.refl _ _) _)).mono ?_; rintro e w2 ⟨rfl, hb2⟩; have c0 : w2.cell? ⟨w.heap.size, 0, none⟩ = some (.int .i64 0) := (hb2.cell (by simp)).trans (by go_simp); have c1 : w2.cell? ⟨w.heap.size, 1, none⟩ = some (.int .i64 0) := (hb2.cell (by simp)).trans (by go_simp); have d0 : ∀ i, w2.frozen? ⟨w.heap.size, i, none⟩ = false := fun i => (hb2.frozen (by simp)).trans (by go_simp)))
  exact bodyPost_ret (v := .agg #[.int .i64 y1, .int .i64 y2]) (by simp [results, Try.results59, go_sem, c0, c1]) rfl ⟨rfl, bS (bS (bT (bA (Below.refl _ _) _) hb2) (Nat.le_refl _) _) (Nat.le_refl _) _⟩
end Go.Proofs.Ytmfbfcknnjbabaa

namespace Go.Proofs.Ytmfbfcknnjbabaa
open Go.RowKit

theorem grown_none {w w' : World} (h : Below w.heap.size w w') : w.grownBy w' none := ⟨h.os, h.tape, h.output, h.size, fun k hk _ => h.block k hk⟩
theorem own_below {w w' : World} {base : Nat} {e : TypeId} {size : Nat} {v : Value} {n : Nat} {xs : List Value} (h : w.ownsRow base e size v n xs) (hb : Below w.heap.size w w') : w'.ownsRow base e size v n xs :=
  h.kept (grown_none hb) (by cases v.ownBlock <;> simp)
theorem own_base {w : World} {base b : Nat} {e : TypeId} {size : Nat} {v : Value} {n : Nat} {xs : List Value} (h : w.ownsRow base e size v n xs) (hb : b ≤ base) : w.ownsRow b e size v n xs :=
  ⟨h.1, h.2.imp id fun ⟨g, cap, cur, a, c, d⟩ => ⟨g, cap, cur, a, Nat.le_trans hb c, d⟩⟩
theorem below_grown {a w w' : World} {base : Nat} {e : TypeId} {size : Nat} {v : Value} {n : Nat} {xs : List Value} (h : Below a.heap.size a w) (ho : w.ownsRow base e size v n xs) (hb : a.heap.size ≤ base) (hg : w.grownBy w' v.ownBlock) : Below a.heap.size a w' :=
  h.grown hg h.size fun k hk => Nat.le_trans hb (ho.lt k hk).1
/-- what an owned value looks like -/
theorem own_form {w : World} {base : Nat} {e : TypeId} {size : Nat} {v : Value} {n : Nat} {xs : List Value} (h : w.ownsRow base e size v n xs) :
    ∃ p cap, v = .slice p n cap ∧ (0 < n → ∃ g, p = some ⟨g, 0, none⟩ ∧ base ≤ g ∧ g < w.heap.size ∧ ∀ j, j < n * size → w.cell? ⟨g, j, none⟩ = xs[j]?) := by
  rcases h.2 with ⟨rfl, rfl⟩ | ⟨g, cap, cur, rfl, hb, hg, _⟩
  · exact ⟨_, _, rfl, fun h => by omega⟩
  · exact ⟨_, _, rfl, fun _ => ⟨g, rfl, hb, (Array.getElem?_eq_some_iff.1 hg).1, fun j hj => h.cellAt j hj⟩⟩

def flat2 (l : List (Int × Int)) : List Value := l.flatMap fun x => [.int .i64 x.1, .int .i64 x.2]
theorem flat2_snoc (l : List (Int × Int)) (x : Int × Int) : flat2 (l ++ [x]) = flat2 l ++ [.int .i64 x.1, .int .i64 x.2] := by simp [flat2]
theorem flat2_len (l : List (Int × Int)) : (flat2 l).length = l.length * 2 := by induction l <;> simp_all [flat2]; omega
theorem flat2_at (l : List (Int × Int)) (k : Nat) (h : k < l.length) : (flat2 l)[k * 2]? = some (.int .i64 l[k].1) ∧ (flat2 l)[k * 2 + 1]? = some (.int .i64 l[k].2) := by
  induction l generalizing k with
  | nil => simp at h
  | cons x l ih =>
    cases k with
    | zero => simp [flat2]
    | succ k =>
      have := ih k (by simpa using h)
      have e1 : (k + 1) * 2 = k * 2 + 1 + 1 := by omega
      simp only [flat2, List.flatMap_cons, List.cons_append, List.nil_append, e1, List.getElem?_cons_succ, List.getElem_cons_succ] at *
      exact this

def lv (M : List Int) (n : Nat) : List (Int × Int) := (List.range n).map fun q => dif M 0 (q + 1)
theorem lv_succ (M : List Int) (n : Nat) : lv M (n + 1) = lv M n ++ [dif M 0 (n + 1)] := by simp [lv, List.range_succ]
theorem lv_len (M : List Int) (n : Nat) : (lv M n).length = n := by simp [lv]

theorem info38 : (Try.prog.info? 38).map (fun i => (i.zero, i.size, i.bytes)) = some (some (.agg #[.int .i64 0, .int .i64 0]), 2, 16) := by kernel_rfl

set_option maxRecDepth 100000 in
set_option maxHeartbeats 1000000 in
theorem levels_any (n : Nat) (M : List Int) (g : Nat) (w : World) (hn : n ≤ 6) (hr : RowAt w g n M) :
    Calls Try.prog 61 #[.pointer (some ⟨g, 0, none⟩)] w fun e w' => ∃ v, e = .returned v ∧ w'.ownsRow w.heap.size 38 2 v n (flat2 (lv M n)) ∧ Below w.heap.size w w' := by
  obtain ⟨i0, hi, hz0, hz1, hz2⟩ := info_parts info38
  have c0 := hr.cell0
  have hgl := hr.lt
  have HR := Lib.hid hr; clear hr
  have I1 := Lib.hid hi; have I2 := Lib.hid hz0; have I3 := Lib.hid hz1; have I4 := Lib.hid hz2; clear hi hz0 hz1 hz2
  go_enter Try.func61, Try.ntmps61
  go_wp2
  go_loopw [3, 9] (fun v i wr => ∃ k : Nat, i = .int .i64 k ∧ k ≤ n ∧ wr.ownsRow w.heap.size 38 2 v k (flat2 (lv M k)) ∧ Below w.heap.size w wr) (fun _ i _ => n - (intOf i).toNat)
  case atStart => exact ⟨0, rfl, Nat.zero_le _, World.ownsRow_nil _ _ _ _, Below.refl _ _⟩
  case round =>
    obtain ⟨k, rfl, hk, ho, hb⟩ := hrel
    have HO := Lib.hid ho; have HB := Lib.hid hb; clear ho hb c0
    by_cases hlt : k < n
    · obtain ⟨⟨y1, y2⟩, hy⟩ : ∃ y, dif M 0 (k + 1) = y := ⟨_, rfl⟩
      have hl := level_any n M g k wr (by omega) (HR.out.below HB.out hgl)
      rw [hy] at hl
      have HL := Lib.hid hl; have HY := Lib.hid hy; clear hl hy
      obtain ⟨p, cap, rfl, _⟩ := own_form HO.out
      have hbase := HB.out.size
      go_wp2_with (first
        | (go_at_call 59; refine HL.out.mono ?_; rintro e w2 ⟨rfl, hb2⟩; have HB2 := Lib.hid hb2; clear hb2)
        | (at_builtin; refine wpList_append_own _ rfl _ _ 68 rfl w.heap.size 38 i0 _ 2 16 Try.underlying68 I1.out I2.out I3.out I4.out rfl (by decide) _ _ _ rfl ((own_below HO.out HB2.out).alloc _) ⟨w2.heap.size, 0, none⟩ 1 1 [.int .i64 y1, .int .i64 y2] rfl rfl ?c1 ?c2 ?c3 ?c4 ?c5 ?_))
      case c1 => exact World.news_of_block (cs := #[.int .i64 y1, .int .i64 y2]) (t := 38) (fr := (0, 0)) (heap_alloc_new _ _)
      case c2 => simp [Value.oneCell']
      case c3 => unfold maxLen; omega
      case c4 => omega
      case c5 => have := HB2.out.size; simp; omega
      intro v' w3 hown hgrow _
      have HOW := Lib.hid hown; have HGR := Lib.hid hgrow; clear hown hgrow
      obtain ⟨p', cap', rfl, _⟩ := own_form HOW.out
      go_wp2
      go_roundw
      case rel =>
        refine ⟨k + 1, by go_num, hlt, ?_, below_grown (bA (bT HB.out HB2.out) _) ((own_below HO.out HB2.out).alloc _) (Nat.le_refl _) HGR.out⟩
        rw [lv_succ, flat2_snoc, HY.out]
        exact HOW.out
      case measure => simp [intOf]; omega
    · obtain rfl : k = n := by omega
      go_wp2
      go_ret
      exact ⟨_, rfl, HO.out, HB.out⟩
end Go.Proofs.Ytmfbfcknnjbabaa
