/- Worlds as bits: how many; the least and the greatest number of a list. -/
import Derived.Test.YtdjkbpenppdnlaaDoorF1

import Derived.Test.YtdjkbpenppdnlaaDoorC2

set_option linter.unusedSimpArgs false

set_option linter.unusedVariables false

namespace Go.Proofs.YtdjkbpenppdnlaaDoor

open Go.RowKit

def popc (m : Nat) : Nat := (bitsM m).length
theorem all64 {P : Nat → Prop} (h : ∀ m, m < 64 → P m) {m : Nat} (hm : m < 64) : P m := h m hm
def ocA (x : Int) : Int := IntKind.u64.wrap (bits BinOp.and IntKind.u64 (x / 2) 6148914691236517205 + bits BinOp.and IntKind.u64 x 6148914691236517205)
def ocB (x : Int) : Int := IntKind.u64.wrap (bits BinOp.and IntKind.u64 (x / 4) 3689348814741910323 + bits BinOp.and IntKind.u64 x 3689348814741910323)
def ocC (x : Int) : Int := bits BinOp.and IntKind.u64 (IntKind.u64.wrap (x / 16 + x)) 1085102592571150095
def ocD (x : Int) : Int := IntKind.u64.wrap (x + x / 256)
def ocE (x : Int) : Int := IntKind.u64.wrap (x + x / 65536)
def ocF (x : Int) : Int := IntKind.u64.wrap (x + x / 4294967296)
theorem oc_ok : ∀ m : Nat, m < 64 → bits BinOp.and IntKind.i64 (wrap64 (ocF (ocE (ocD (ocC (ocB (ocA ((m : Nat) : Int)))))))) 127 = ((popc m : Nat) : Int) := by decide +kernel
set_option maxRecDepth 100000 in
set_option maxHeartbeats 2000000 in
theorem oc64_any (m : Nat) (hm : m < 64) (w : World) :
    Calls Tryd.prog 142 #[.int .u64 (m : Int)] w fun e w' => e = .returned (.int .i64 (popc m : Nat)) ∧ w = w' := by
  go_enter Tryd.func142, Tryd.ntmps142
  go_wp2
  go_ret
  refine ⟨ret_i ?_, rfl⟩
  exact oc_ok m hm
theorem oc_any (m : Nat) (hm : m < 64) (w : World) :
    Calls Tryd.prog 135 #[.int .u64 (m : Int)] w fun e w' => e = .returned (.int .i64 (popc m : Nat)) ∧ w = w' := by
  have HZ := Lib.hid (oc64_any m hm w)
  clear hm
  go_enter Tryd.func135, Tryd.ntmps135
  go_wp2_with fail
  refine HZ.out.mono ?_
  rintro e w' ⟨rfl, rfl⟩
  go_wp2
  go_ret
  exact ⟨rfl, rfl⟩
theorem count_any (m : Nat) (hm : m < 64) (w : World) :
    Calls Tryd.prog 113 #[.int .u64 (m : Int)] w fun e w' => e = .returned (.int .i64 (popc m : Nat)) ∧ w = w' := by
  have HZ := Lib.hid (oc_any m hm w)
  clear hm
  go_enter Tryd.func113, Tryd.ntmps113
  go_wp2_with fail
  refine HZ.out.mono ?_
  rintro e w' ⟨rfl, rfl⟩
  go_wp2
  go_ret
  exact ⟨rfl, rfl⟩
/-- the least and the greatest of the first numbers -/
def mnN (g : Nat → Int) : Nat → Int
  | 0 => 0
  | k + 1 => if k = 0 then g 0 else (if g k < mnN g k then g k else mnN g k)
def mxN (g : Nat → Int) : Nat → Int
  | 0 => 0
  | k + 1 => if k = 0 then g 0 else (if mxN g k < g k then g k else mxN g k)
theorem mnN_succ {g : Nat → Int} {k : Nat} (h : 0 < k) : (if g k < mnN g k then g k else mnN g k) = mnN g (k + 1) := by
  exact (if_neg (by omega)).symm
theorem mxN_succ {g : Nat → Int} {k : Nat} (h : 0 < k) : (if mxN g k < g k then g k else mxN g k) = mxN g (k + 1) := by
  exact (if_neg (by omega)).symm
theorem mnN_le {g : Nat → Int} : ∀ {n k : Nat}, k < n → mnN g n ≤ g k
  | 0, _, h => absurd h (Nat.not_lt_zero _)
  | n + 1, k, h => by
    unfold mnN
    by_cases h0 : n = 0
    · rw [if_pos h0, show k = 0 by omega]; exact Int.le_refl _
    · rw [if_neg h0]
      rcases Nat.lt_succ_iff_lt_or_eq.1 h with h1 | rfl
      · have := mnN_le (g := g) h1
        split <;> omega
      · split <;> omega
theorem mxN_ge {g : Nat → Int} : ∀ {n k : Nat}, k < n → g k ≤ mxN g n
  | 0, _, h => absurd h (Nat.not_lt_zero _)
  | n + 1, k, h => by
    unfold mxN
    by_cases h0 : n = 0
    · rw [if_pos h0, show k = 0 by omega]; exact Int.le_refl _
    · rw [if_neg h0]
      rcases Nat.lt_succ_iff_lt_or_eq.1 h with h1 | rfl
      · have := mxN_ge (g := g) h1
        split <;> omega
      · split <;> omega
theorem mnN_at {g : Nat → Int} : ∀ {n : Nat}, 0 < n → ∃ k, k < n ∧ mnN g n = g k
  | 0, h => absurd h (Nat.not_lt_zero _)
  | n + 1, _ => by
    unfold mnN
    by_cases h0 : n = 0
    · exact ⟨0, by omega, by rw [if_pos h0]⟩
    · rw [if_neg h0]
      obtain ⟨k, h1, h2⟩ := mnN_at (g := g) (n := n) (by omega)
      split
      · exact ⟨n, by omega, rfl⟩
      · exact ⟨k, by omega, h2⟩
theorem mxN_at {g : Nat → Int} : ∀ {n : Nat}, 0 < n → ∃ k, k < n ∧ mxN g n = g k
  | 0, h => absurd h (Nat.not_lt_zero _)
  | n + 1, _ => by
    unfold mxN
    by_cases h0 : n = 0
    · exact ⟨0, by omega, by rw [if_pos h0]⟩
    · rw [if_neg h0]
      obtain ⟨k, h1, h2⟩ := mxN_at (g := g) (n := n) (by omega)
      split
      · exact ⟨n, by omega, rfl⟩
      · exact ⟨k, by omega, h2⟩
theorem getD_mem {l : List Nat} {k : Nat} (h : k < l.length) : l.getD k 0 ∈ l := by
  rw [List.getD_eq_getElem?_getD, List.getElem?_eq_getElem h]; exact List.getElem_mem h
theorem mem_getD {l : List Nat} {x : Nat} (h : x ∈ l) : ∃ k, k < l.length ∧ l.getD k 0 = x := by
  obtain ⟨k, hk, e⟩ := List.getElem_of_mem h
  exact ⟨k, hk, by rw [List.getD_eq_getElem?_getD, List.getElem?_eq_getElem hk]; exact e⟩
theorem mnN_L {f : Nat → Int} {l : List Nat} (h : l ≠ []) : mnN (fun k => f (l.getD k 0)) l.length = mnL f l := by
  have hl : 0 < l.length := List.length_pos_iff.2 h
  obtain ⟨k, h1, h2⟩ := mnN_at (g := fun k => f (l.getD k 0)) hl
  obtain ⟨x, h3, h4⟩ := mnL_at (f := f) h
  obtain ⟨j, h5, h6⟩ := mem_getD h3
  have a := mnL_le (f := f) (getD_mem h1)
  have b := mnN_le (g := fun k => f (l.getD k 0)) h5
  simp only [h6] at b
  omega
theorem mxN_L {f : Nat → Int} {l : List Nat} (h : l ≠ []) : mxN (fun k => f (l.getD k 0)) l.length = mxL f l := by
  have hl : 0 < l.length := List.length_pos_iff.2 h
  obtain ⟨k, h1, h2⟩ := mxN_at (g := fun k => f (l.getD k 0)) hl
  obtain ⟨x, h3, h4⟩ := mxL_at (f := f) h
  obtain ⟨j, h5, h6⟩ := mem_getD h3
  have a := mxL_ge (f := f) (getD_mem h1)
  have b := mxN_ge (g := fun k => f (l.getD k 0)) h5
  simp only [h6] at b
  omega
set_option maxRecDepth 100000 in
set_option maxHeartbeats 2000000 in
theorem min_any (n c : Nat) (g : Nat → Int) (p : Option Addr) (w : World) (h0 : 0 < n) (hn : n ≤ 1000) (hi : At w w.heap.size p n 1 (fun k => .int .i64 (g k))) :
    Calls Tryd.prog 136 #[.slice p n c] w fun e w' => e = .returned (.int .i64 (mnN g n)) ∧ Below w.heap.size w w' := by
  obtain ⟨b, o, rfl, hb, hc⟩ := hi h0
  have HC := Lib.hid hc
  have k0 : w.cell? ⟨b, o, none⟩ = some (.int .i64 (g 0)) := hc 0 (by omega)
  have j0 : decide ((n : Int) < 1) = false := by simp; omega
  have hn0 : 0 < (n : Int) := by omega
  have h0' := h0
  clear hi hc hb
  go_enter Tryd.func136, Tryd.ntmps136
  go_wp2
  clear j0 k0
  go_loopw [3, 4] (fun v i wr => ∃ k : Nat, i = .int .i64 ((k : Int) + 1) ∧ v = .int .i64 (mnN g (k + 1)) ∧ k + 1 ≤ n ∧ ∃ x : Ext w, wr = x.v) (fun _ i _ => n - (intOf i).toNat)
  case atStart => exact ⟨0, rfl, rfl, h0, ⟨w, Below.refl _ _⟩, rfl⟩
  case round =>
    obtain ⟨k, rfl, rfl, hk, y, rfl⟩ := hrel
    by_cases hlt : k + 1 < n
    · have j : decide ((k : Int) + 1 < (n : Int)) = true := by simp; omega
      have hli : (k : Int) + 1 < (n : Int) := by omega
      have c0 : y.v.cell? ⟨b, o + (k + 1), none⟩ = some (.int .i64 (g (k + 1))) := (World.cell?_of_block (a := ⟨b, o + (k + 1), none⟩) (y.b.block b (World.block_lt_of_cell? w _ (HC.out 0 (by omega))))).trans (HC.out (k + 1) (by omega))
      have t1 := mnN_succ (g := g) (k := k + 1) (by omega)
      have t2 : (if mnN g (k + 1) < g (k + 1) then mnN g (k + 1) else g (k + 1)) = mnN g (k + 1 + 1) := by rw [← t1]; split <;> split <;> omega
      obtain ⟨v, hv⟩ : ∃ v, g (k + 1) = v := ⟨_, rfl⟩
      obtain ⟨u, hu⟩ : ∃ u, mnN g (k + 1) = u := ⟨_, rfl⟩
      obtain ⟨r, hr⟩ : ∃ r, mnN g (k + 1 + 1) = r := ⟨_, rfl⟩
      rw [hu, hv, hr] at t1 t2
      rw [hv] at c0
      rw [hu]
      have HR := Lib.hid hr
      clear hr hu hv
      go_wp2
      go_roundw
      case rel => exact ⟨k + 1, by go_num, by rw [HR.out], hlt, y, rfl⟩
      case measure => first | (simp [intOf]; done) | (simp [intOf]; omega)
    · have HK := Lib.hid (show k + 1 = n by omega)
      have j : decide ((k : Int) + 1 < (n : Int)) = false := by simp; omega
      have hli : ¬ (k : Int) + 1 < (n : Int) := by omega
      go_wp2
      go_ret
      exact ⟨ret_i (by rw [HK.out]), y.b⟩
set_option maxRecDepth 100000 in
set_option maxHeartbeats 2000000 in
theorem max_any (n c : Nat) (g : Nat → Int) (p : Option Addr) (w : World) (h0 : 0 < n) (hn : n ≤ 1000) (hi : At w w.heap.size p n 1 (fun k => .int .i64 (g k))) :
    Calls Tryd.prog 137 #[.slice p n c] w fun e w' => e = .returned (.int .i64 (mxN g n)) ∧ Below w.heap.size w w' := by
  obtain ⟨b, o, rfl, hb, hc⟩ := hi h0
  have HC := Lib.hid hc
  have k0 : w.cell? ⟨b, o, none⟩ = some (.int .i64 (g 0)) := hc 0 (by omega)
  have j0 : decide ((n : Int) < 1) = false := by simp; omega
  have hn0 : 0 < (n : Int) := by omega
  have h0' := h0
  clear hi hc hb
  go_enter Tryd.func137, Tryd.ntmps137
  go_wp2
  clear j0 k0
  go_loopw [3, 4] (fun v i wr => ∃ k : Nat, i = .int .i64 ((k : Int) + 1) ∧ v = .int .i64 (mxN g (k + 1)) ∧ k + 1 ≤ n ∧ ∃ x : Ext w, wr = x.v) (fun _ i _ => n - (intOf i).toNat)
  case atStart => exact ⟨0, rfl, rfl, h0, ⟨w, Below.refl _ _⟩, rfl⟩
  case round =>
    obtain ⟨k, rfl, rfl, hk, y, rfl⟩ := hrel
    by_cases hlt : k + 1 < n
    · have j : decide ((k : Int) + 1 < (n : Int)) = true := by simp; omega
      have hli : (k : Int) + 1 < (n : Int) := by omega
      have c0 : y.v.cell? ⟨b, o + (k + 1), none⟩ = some (.int .i64 (g (k + 1))) := (World.cell?_of_block (a := ⟨b, o + (k + 1), none⟩) (y.b.block b (World.block_lt_of_cell? w _ (HC.out 0 (by omega))))).trans (HC.out (k + 1) (by omega))
      have t1 := mxN_succ (g := g) (k := k + 1) (by omega)
      have t2 : (if g (k + 1) < mxN g (k + 1) then mxN g (k + 1) else g (k + 1)) = mxN g (k + 1 + 1) := by rw [← t1]; split <;> split <;> omega
      obtain ⟨v, hv⟩ : ∃ v, g (k + 1) = v := ⟨_, rfl⟩
      obtain ⟨u, hu⟩ : ∃ u, mxN g (k + 1) = u := ⟨_, rfl⟩
      obtain ⟨r, hr⟩ : ∃ r, mxN g (k + 1 + 1) = r := ⟨_, rfl⟩
      rw [hu, hv, hr] at t1 t2
      rw [hv] at c0
      rw [hu]
      have HR := Lib.hid hr
      clear hr hu hv
      go_wp2
      go_roundw
      case rel => exact ⟨k + 1, by go_num, by rw [HR.out], hlt, y, rfl⟩
      case measure => first | (simp [intOf]; done) | (simp [intOf]; omega)
    · have HK := Lib.hid (show k + 1 = n by omega)
      have j : decide ((k : Int) + 1 < (n : Int)) = false := by simp; omega
      have hli : ¬ (k : Int) + 1 < (n : Int) := by omega
      go_wp2
      go_ret
      exact ⟨ret_i (by rw [HK.out]), y.b⟩
end Go.Proofs.YtdjkbpenppdnlaaDoor
