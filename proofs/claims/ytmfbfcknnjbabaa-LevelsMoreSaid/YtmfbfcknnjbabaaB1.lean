/- The contract of bound: what k.bound(p, q, most) answers and leaves. -/
import Derived.Test.YtmfbfcknnjbabaaA8
import Derived.Deep.OwnRows
import Derived.StillTailTactics
set_option linter.unusedSimpArgs false
set_option linter.unusedVariables false
namespace Go.Proofs.Ytmfbfcknnjbabaa
open Go.RowKit

/-- the cells of a 'known': the number of wells, then the 49 numbers -/
def kv (n : Int) (M : List Int) : Array Value := (Value.int .i64 n :: M.map (Value.int .i64)).toArray
def gt (M : List Int) (i : Nat) : Int := M[i]?.getD 0
theorem kv_size (n : Int) (M : List Int) : (kv n M).size = M.length + 1 := by simp [kv]
theorem kv_at (n : Int) (M : List Int) (i : Nat) (h : i < M.length) : (kv n M)[1 + i]? = some (.int .i64 (gt M i)) := by
  simp [kv, gt, Nat.add_comm 1 i, h]
theorem kv_set (n : Int) (M : List Int) (i : Nat) (x : Int) : (kv n M).setIfInBounds (1 + i) (.int .i64 x) = kv n (M.set i x) := by
  simp [kv, Nat.add_comm 1 i, List.map_set]
structure RowAt (w : World) (g : Nat) (n : Int) (M : List Int) : Prop where
  row : w.heap[g]? = some (.cells (kv n M) 76 (0, 0))
  len : M.length = 49
theorem RowAt.cell {w : World} {g : Nat} {n : Int} {M : List Int} (h : RowAt w g n M) (i : Nat) (hi : i < 49) : w.cell? ⟨g, 1 + i, none⟩ = some (.int .i64 (gt M i)) := by
  rw [cell_of_row w g (1 + i) _ _ _ h.row, kv_at n M i (by rw [h.len]; exact hi)]
theorem RowAt.cell0 {w : World} {g : Nat} {n : Int} {M : List Int} (h : RowAt w g n M) : w.cell? ⟨g, 0, none⟩ = some (.int .i64 n) := by
  rw [cell_of_row w g 0 _ _ _ h.row]; simp [kv]
theorem RowAt.frozen {w : World} {g : Nat} {n : Int} {M : List Int} (h : RowAt w g n M) (i : Nat) : w.frozen? ⟨g, i, none⟩ = false := by
  simp [World.frozen?, h.row]
theorem RowAt.lt {w : World} {g : Nat} {n : Int} {M : List Int} (h : RowAt w g n M) : g < w.heap.size := (Array.getElem?_eq_some_iff.1 h.row).1
theorem RowAt.set {w : World} {g : Nat} {n : Int} {M : List Int} (h : RowAt w g n M) (i : Nat) (x : Int) : RowAt (w.setCell ⟨g, 1 + i, none⟩ (.int .i64 x)) g n (M.set i x) := by
  refine ⟨?_, by simp [h.len]⟩
  rw [← kv_set]
  simp [World.setCell, Array.getElem?_modify, h.row]
theorem RowAt.at {w : World} {g : Nat} {n : Int} {M : List Int} (h : RowAt w g n M) (a b : Nat) (ha : a < 7) (hb : b < 7) : w.cell? ⟨g, 1 + a * 7 + b, none⟩ = some (.int .i64 (gt M (a * 7 + b))) := by
  have t := h.cell (a * 7 + b) (by omega)
  rwa [← Nat.add_assoc] at t
theorem RowAt.drewN {w : World} {g : Nat} {n : Int} {M : List Int} (h : RowAt w g n M) (k : Nat) : RowAt (w.drewN k) g n M := ⟨h.row, h.len⟩
theorem RowAt.drew {w : World} {g : Nat} {n : Int} {M : List Int} (h : RowAt w g n M) : RowAt w.drew g n M := ⟨h.row, h.len⟩
theorem RowAt.below {w w' : World} {g B : Nat} {n : Int} {M : List Int} (h : RowAt w g n M) (hb : Below B w w') (hg : g < B) : RowAt w' g n M := ⟨(hb.block g hg).trans h.row, h.len⟩

theorem gD {a w : World} {row : Option Nat} (h : a.grownBy w row) (n : Nat) : a.grownBy (w.drewN n) row := ⟨h.os, h.tape, h.output, h.size, h.block⟩
theorem gd {a w : World} {row : Option Nat} (h : a.grownBy w row) : a.grownBy w.drew row := ⟨h.os, h.tape, h.output, h.size, h.block⟩
theorem gA {a w : World} {row : Option Nat} (h : a.grownBy w row) (o : Obj) : a.grownBy (w.alloc o) row :=
  ⟨h.os, h.tape, h.output, Nat.le_trans h.size (by simp), fun i hi hne => (Below.heap_alloc w o i (Nat.lt_of_lt_of_le hi h.size)).trans (h.block i hi hne)⟩
theorem gS {a w : World} {g : Nat} (h : a.grownBy w (some g)) {p : Addr} (hp : p.block = g ∨ a.heap.size ≤ p.block) (u : Value) : a.grownBy (w.setCell p u) (some g) :=
  ⟨h.os, h.tape, h.output, by simpa [World.setCell] using h.size, fun i hi hne => (Below.heap_setCell w p u i (by
    rintro rfl
    rcases hp with hp | hp
    · exact hne (by rw [hp])
    · omega)).trans (h.block i hi hne)⟩
theorem gR (w : World) (row : Option Nat) : w.grownBy w row := ⟨rfl, rfl, rfl, Nat.le_refl _, fun _ _ _ => rfl⟩
theorem gT {a b c : World} {g : Nat} (h : a.grownBy b (some g)) (k : b.grownBy c (some g)) : a.grownBy c (some g) :=
  ⟨k.os.trans h.os, k.tape.trans h.tape, k.output.trans h.output, Nat.le_trans h.size k.size, fun i hi hne => (k.block i (Nat.lt_of_lt_of_le hi h.size) hne).trans (h.block i hi hne)⟩
theorem gB {a b c : World} {row : Option Nat} (h : a.grownBy b row) (k : Below b.heap.size b c) : a.grownBy c row :=
  ⟨k.os.trans h.os, k.tape.trans h.tape, k.output.trans h.output, Nat.le_trans h.size k.size, fun i hi hne => (k.block i (Nat.lt_of_lt_of_le hi h.size)).trans (h.block i hi hne)⟩
/-- what a call does to a row that is newer than a -/
theorem bG {a b c : World} {g : Nat} (h : Below a.heap.size a b) (k : b.grownBy c (some g)) (hg : a.heap.size ≤ g) : Below a.heap.size a c :=
  ⟨k.os.trans h.os, k.tape.trans h.tape, k.output.trans h.output, Nat.le_trans h.size k.size, fun i hi => (k.block i (Nat.lt_of_lt_of_le hi h.size) (by simp; omega)).trans (h.block i hi)⟩

def bStep (p q : Nat) (most : Int) (M : List Int) (i : Nat) : List Int :=
  M.set i (min (gt M i) (wrap64 (wrap64 (gt M (i / 7 * 7 + p) + most) + gt M (q * 7 + i % 7))))
def bIter (p q : Nat) (most : Int) (M : List Int) : Nat → List Int
  | 0 => M
  | k + 1 => bStep p q most (bIter p q most M k) k
/-- what k.bound(p, q, most) answers and leaves -/
def bnd (M : List Int) (p q : Nat) (most : Int) : Bool × List Int :=
  if wrap64 (most + gt M (q * 7 + p)) < 0 then (false, M) else if gt M (p * 7 + q) ≤ most then (true, M) else (true, bIter p q most M 49)

set_option maxRecDepth 100000 in
set_option maxHeartbeats 2000000 in
theorem bound_any (n : Int) (M : List Int) (g p q : Nat) (most : Int) (w : World) (hp : p < 7) (hq : q < 7) (hr : RowAt w g n M) :
    Calls Try.prog 102 #[.pointer (some ⟨g, 0, none⟩), .int .i64 p, .int .i64 q, .int .i64 most] w fun e w' =>
      e = .returned (.bool (bnd M p q most).1) ∧ RowAt w' g n (bnd M p q most).2 ∧ w.grownBy w' (some g) := by
  have c1 := hr.at q p hq hp
  have c2 := hr.at p q hp hq
  have HR := Lib.hid hr; clear hr
  obtain ⟨x1, hx1⟩ : ∃ x, gt M (q * 7 + p) = x := ⟨_, rfl⟩
  obtain ⟨x2, hx2⟩ : ∃ x, gt M (p * 7 + q) = x := ⟨_, rfl⟩
  rw [hx1] at c1; rw [hx2] at c2
  have HX1 := Lib.hid hx1; have HX2 := Lib.hid hx2; clear hx1 hx2
  by_cases h1 : wrap64 (most + x1) < 0
  · have hb : bnd M p q most = (false, M) := by simp only [bnd, HX1.out, if_pos h1]
    have HBN := Lib.hid hb; clear hb
    go_enter Try.func102, Try.ntmps102
    go_wp2
    go_ret
    rw [HBN.out]
    exact ⟨rfl, HR.out, gR _ _⟩
  · by_cases h2 : x2 ≤ most
    · have hb : bnd M p q most = (true, M) := by simp only [bnd, HX1.out, HX2.out, if_neg h1, if_pos h2]
      have HBN := Lib.hid hb; clear hb
      go_enter Try.func102, Try.ntmps102
      go_wp2
      go_ret
      rw [HBN.out]
      exact ⟨rfl, HR.out, gR _ _⟩
    · have hb : bnd M p q most = (true, bIter p q most M 49) := by simp only [bnd, HX1.out, HX2.out, if_neg h1, if_neg h2]
      have HBN := Lib.hid hb; clear hb
      have p0 : (0 : Int) ≤ (p : Int) := by omega
      have p1 : (p : Int) < 7 := by omega
      have q0 : (0 : Int) ≤ (q : Int) := by omega
      have q1 : (q : Int) < 7 := by omega
      go_enter Try.func102, Try.ntmps102
      go_wp2
      clear c1 c2 h1 h2
      go_loopw [33] (fun i wr => ∃ f : Nat, i = .int .i64 f ∧ f ≤ 7 ∧ RowAt wr g n (bIter p q most M (f * 7)) ∧ w.grownBy wr (some g)) (fun i _ => 7 - (intOf i).toNat)
      case atStart => exact ⟨0, rfl, by omega, HR.out, gR _ _⟩
      case round =>
        obtain ⟨f, rfl, hf, hr, hg⟩ := hrel
        have HRR := Lib.hid hr; have HG := Lib.hid hg; clear hr hg
        by_cases hlt : f < 7
        · have f0 : (0 : Int) ≤ (f : Int) := by omega
          have f1 : (f : Int) < 7 := by omega
          go_wp2
          obtain ⟨wa, rfl⟩ : ∃ wa, wa = wr := ⟨_, rfl⟩
          go_loopw [36] (fun i wr => ∃ t : Nat, i = .int .i64 t ∧ t ≤ 7 ∧ RowAt wr g n (bIter p q most M (f * 7 + t)) ∧ w.grownBy wr (some g)) (fun i _ => 7 - (intOf i).toNat)
          case atStart => exact ⟨0, rfl, by omega, HRR.out, HG.out⟩
          case round =>
            clear HRR HG
            obtain ⟨t, rfl, ht, hr, hg⟩ := hrel
            have HRR := Lib.hid hr; have HG := Lib.hid hg; clear hr hg
            by_cases htt : t < 7
            · have t0 : (0 : Int) ≤ (t : Int) := by omega
              have t1 : (t : Int) < 7 := by omega
              obtain ⟨y1, hy1⟩ : ∃ x, gt (bIter p q most M (f * 7 + t)) (f * 7 + p) = x := ⟨_, rfl⟩
              obtain ⟨y2, hy2⟩ : ∃ x, gt (bIter p q most M (f * 7 + t)) (q * 7 + t) = x := ⟨_, rfl⟩
              obtain ⟨y3, hy3⟩ : ∃ x, gt (bIter p q most M (f * 7 + t)) (f * 7 + t) = x := ⟨_, rfl⟩
              have c1 := HRR.out.at f p hlt hp
              have c2 := HRR.out.at q t hq htt
              have c3 := HRR.out.at f t hlt htt
              have d3 := HRR.out.frozen (1 + f * 7 + t)
              rw [hy1] at c1; rw [hy2] at c2; rw [hy3] at c3
              have Y1 := Lib.hid hy1; have Y2 := Lib.hid hy2; have Y3 := Lib.hid hy3; clear hy1 hy2 hy3
              go_wp2
              go_quiet (fail)
              go_wp2
              go_region
              generalize hm : (if wrap64 (wrap64 (y1 + most) + y2) < y3 then wrap64 (wrap64 (y1 + most) + y2) else y3) = mval
              have HM := Lib.hid hm; clear hm c1 c2 c3 d3
              go_wp2
              go_roundw
              case rel =>
                refine ⟨t + 1, by go_num, htt, ?_, gS (gD HG.out _) (.inl rfl) _⟩
                have hr := (HRR.out.drewN (nq + 1)).set (f * 7 + t) mval
                have e1 : (f * 7 + t) / 7 * 7 + p = f * 7 + p := by omega
                have e2 : q * 7 + (f * 7 + t) % 7 = q * 7 + t := by omega
                have e3 : bIter p q most M (f * 7 + (t + 1)) = (bIter p q most M (f * 7 + t)).set (f * 7 + t) mval := by
                  rw [show f * 7 + (t + 1) = (f * 7 + t) + 1 from rfl]
                  show bStep p q most (bIter p q most M (f * 7 + t)) (f * 7 + t) = _
                  unfold bStep
                  rw [e1, e2, Y1.out, Y2.out, Y3.out, ← HM.out]
                  congr 1
                  omega
                rw [e3]
                rw [← Nat.add_assoc] at hr
                exact hr
              case measure => simp [intOf]; omega
            · obtain rfl : t = 7 := by omega
              go_wp2
              go_roundw
              case rel => exact ⟨f + 1, by go_num, hlt, by rw [show (f + 1) * 7 = f * 7 + 7 by omega]; exact HRR.out, HG.out⟩
              case measure => simp [intOf]; omega
        · go_wp2
          go_ret
          obtain rfl : f = 7 := by omega
          have hr := HRR.out
          rw [show 7 * 7 = 49 from rfl] at hr
          have hg := HG.out
          rw [HBN.out]
          generalize bIter p q most M 49 = N at hr
          exact ⟨rfl, hr, hg⟩
end Go.Proofs.Ytmfbfcknnjbabaa
