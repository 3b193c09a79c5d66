/- Towns with worlds: isEach of the program, for any list of numbers, of rows, of worlds, of facts. -/
import Derived.Test.YtdjkbpenppdnlaaDoorA2

set_option linter.unusedSimpArgs false

set_option linter.unusedVariables false

namespace Go.Proofs.YtdjkbpenppdnlaaDoor

open Go.RowKit

set_option maxRecDepth 100000 in
set_option maxHeartbeats 2000000 in
theorem isEachI_any (n c : Nat) (f : Nat → Int) (b : Nat → Bool) (p : Option Addr) (gf : Nat) (caps : Array Value) (w : World) (hn : n ≤ maxLen) (h : At w w.heap.size p n 1 (fun k => .int .i64 (f k)))
    (EG : ∀ (args : Array Value) (W : World), (callFunc gf args).run Tryd.prog W = .ok (.enter gf args) W)
    (HC : ∀ (V : World), Below w.heap.size w V → ∀ k, k < n → Calls Tryd.prog gf (#[.int .i64 (f k)] ++ caps) V fun e V' => e = .returned (.bool (b k)) ∧ Below V.heap.size V V') :
    Calls Tryd.prog 114 #[.slice p n c, .func (.func gf) #[] caps] w fun e w' => e = .returned (.bool (allN b n)) ∧ Below w.heap.size w w' := by
  obtain ⟨x, hx⟩ := rebase w
  have HI : Hid (∀ y : Ext w, At y.v y.v.heap.size p n 1 (fun k => .int .i64 (f k))) := fun y => h.bel y.b
  have HCC := Lib.hid HC
  clear h HC
  unfold maxLen at hn
  go_enter Tryd.func114, Tryd.ntmps114
  go_wp2
  go_loopw [9] (fun i wr => ∃ k : Nat, i = .int .i64 k ∧ k ≤ n ∧ allN b k = true ∧ ∃ x : Ext w, wr = x.v) (fun i _ => n - (intOf i).toNat)
  case atStart => exact ⟨0, rfl, Nat.zero_le _, rfl, x, by first | exact hx | rfl⟩
  case round =>
    clear hx x
    obtain ⟨k, rfl, hk, hp, y, rfl⟩ := hrel
    have HP := Lib.hid hp; clear hp
    by_cases hlt : k < n
    · obtain ⟨q, o, rfl, _, hc⟩ := HI.out y (by omega)
      have c0 : y.v.cell? ⟨q, o + k, none⟩ = some (.int .i64 (f k)) := hc k (by omega)
      clear hc
      have j : decide ((k : Int) < (n : Int)) = true := by simp; omega
      have HF := Lib.hid (HCC.out y.v y.b k hlt)
      cases hb : b k with
      | true =>
        have HS := Lib.hid (allN_succ HP.out hb)
        rw [hb] at HF
        clear hb
        go_wp2_with fail
        refine (HF.out).mono ?_
        rintro e w3 ⟨rfl, hb3⟩
        obtain ⟨z, rfl⟩ : ∃ z : Ext w, w3 = z.v := ⟨⟨w3, bT y.b hb3⟩, rfl⟩
        clear hb3
        go_wp2
        go_roundw
        case rel => exact ⟨k + 1, by go_num, hlt, HS.out, z, rfl⟩
        case measure => first | (simp [intOf]; done) | (simp [intOf]; omega)
      | false =>
        have HS := Lib.hid (allN_bad hlt hb)
        rw [hb] at HF
        clear hb
        go_wp2_with fail
        refine (HF.out).mono ?_
        rintro e w3 ⟨rfl, hb3⟩
        have HB3 := Lib.hid (bT y.b hb3)
        clear hb3
        go_wp2
        go_ret
        exact ⟨ret_b HS.out.symm, HB3.out⟩
    · have HA := Lib.hid (show allN b n = true by have := HP.out; rwa [show k = n by omega] at this)
      have j : decide ((k : Int) < (n : Int)) = false := by simp; omega
      go_wp2
      go_ret
      exact ⟨ret_b HA.out.symm, y.b⟩
set_option maxRecDepth 100000 in
set_option maxHeartbeats 2000000 in
theorem isEachL_any (n c : Nat) (f : Nat → Value) (b : Nat → Bool) (p : Option Addr) (gf : Nat) (caps : Array Value) (w : World) (hn : n ≤ maxLen) (h : At w w.heap.size p n 1 f)
    (EG : ∀ (args : Array Value) (W : World), (callFunc gf args).run Tryd.prog W = .ok (.enter gf args) W)
    (HC : ∀ (V : World), Below w.heap.size w V → ∀ k, k < n → Calls Tryd.prog gf (#[f k] ++ caps) V fun e V' => e = .returned (.bool (b k)) ∧ Below V.heap.size V V') :
    Calls Tryd.prog 103 #[.slice p n c, .func (.func gf) #[] caps] w fun e w' => e = .returned (.bool (allN b n)) ∧ Below w.heap.size w w' := by
  obtain ⟨x, hx⟩ := rebase w
  have HI : Hid (∀ y : Ext w, At y.v y.v.heap.size p n 1 f) := fun y => h.bel y.b
  have HCC := Lib.hid HC
  clear h HC
  unfold maxLen at hn
  go_enter Tryd.func103, Tryd.ntmps103
  go_wp2
  go_loopw [9] (fun i wr => ∃ k : Nat, i = .int .i64 k ∧ k ≤ n ∧ allN b k = true ∧ ∃ x : Ext w, wr = x.v) (fun i _ => n - (intOf i).toNat)
  case atStart => exact ⟨0, rfl, Nat.zero_le _, rfl, x, by first | exact hx | rfl⟩
  case round =>
    clear hx x
    obtain ⟨k, rfl, hk, hp, y, rfl⟩ := hrel
    have HP := Lib.hid hp; clear hp
    by_cases hlt : k < n
    · obtain ⟨q, o, rfl, _, hc⟩ := HI.out y (by omega)
      have c0 : y.v.cell? ⟨q, o + k, none⟩ = some (f k) := hc k (by omega)
      clear hc
      have j : decide ((k : Int) < (n : Int)) = true := by simp; omega
      have HF := Lib.hid (HCC.out y.v y.b k hlt)
      cases hb : b k with
      | true =>
        have HS := Lib.hid (allN_succ HP.out hb)
        rw [hb] at HF
        clear hb
        go_wp2_with fail
        refine (HF.out).mono ?_
        rintro e w3 ⟨rfl, hb3⟩
        obtain ⟨z, rfl⟩ : ∃ z : Ext w, w3 = z.v := ⟨⟨w3, bT y.b hb3⟩, rfl⟩
        clear hb3
        go_wp2
        go_roundw
        case rel => exact ⟨k + 1, by go_num, hlt, HS.out, z, rfl⟩
        case measure => first | (simp [intOf]; done) | (simp [intOf]; omega)
      | false =>
        have HS := Lib.hid (allN_bad hlt hb)
        rw [hb] at HF
        clear hb
        go_wp2_with fail
        refine (HF.out).mono ?_
        rintro e w3 ⟨rfl, hb3⟩
        have HB3 := Lib.hid (bT y.b hb3)
        clear hb3
        go_wp2
        go_ret
        exact ⟨ret_b HS.out.symm, HB3.out⟩
    · have HA := Lib.hid (show allN b n = true by have := HP.out; rwa [show k = n by omega] at this)
      have j : decide ((k : Int) < (n : Int)) = false := by simp; omega
      go_wp2
      go_ret
      exact ⟨ret_b HA.out.symm, y.b⟩
set_option maxRecDepth 100000 in
set_option maxHeartbeats 2000000 in
theorem isEachW_any (n c : Nat) (P : Nat → Option Addr) (L C : Nat → Nat) (b : Nat → Bool) (p : Option Addr) (gf : Nat) (caps : Array Value) (w : World) (hn : n ≤ maxLen) (h : At w w.heap.size p n 1 (fun k => .slice (P k) (L k) (C k)))
    (EG : ∀ (args : Array Value) (W : World), (callFunc gf args).run Tryd.prog W = .ok (.enter gf args) W)
    (HC : ∀ (V : World), Below w.heap.size w V → ∀ k, k < n → Calls Tryd.prog gf (#[.agg #[.slice (P k) (L k) (C k)]] ++ caps) V fun e V' => e = .returned (.bool (b k)) ∧ Below V.heap.size V V') :
    Calls Tryd.prog 104 #[.slice p n c, .func (.func gf) #[] caps] w fun e w' => e = .returned (.bool (allN b n)) ∧ Below w.heap.size w w' := by
  obtain ⟨x, hx⟩ := rebase w
  have HI : Hid (∀ y : Ext w, At y.v y.v.heap.size p n 1 (fun k => .slice (P k) (L k) (C k))) := fun y => h.bel y.b
  have HCC := Lib.hid HC
  clear h HC
  unfold maxLen at hn
  go_enter Tryd.func104, Tryd.ntmps104
  go_wp2
  go_loopw [9] (fun i wr => ∃ k : Nat, i = .int .i64 k ∧ k ≤ n ∧ allN b k = true ∧ ∃ x : Ext w, wr = x.v) (fun i _ => n - (intOf i).toNat)
  case atStart => exact ⟨0, rfl, Nat.zero_le _, rfl, x, by first | exact hx | rfl⟩
  case round =>
    clear hx x
    obtain ⟨k, rfl, hk, hp, y, rfl⟩ := hrel
    have HP := Lib.hid hp; clear hp
    by_cases hlt : k < n
    · obtain ⟨q, o, rfl, _, hc⟩ := HI.out y (by omega)
      have c0 : y.v.cell? ⟨q, o + k, none⟩ = some (.slice (P k) (L k) (C k)) := hc k (by omega)
      clear hc
      have j : decide ((k : Int) < (n : Int)) = true := by simp; omega
      obtain ⟨w2, z0, hw2, hb2, hz2, G0, _⟩ := box_wd y.v (P k) (L k) (C k)
      have HB0 := Lib.hid (bT y.b (bT hb2 z0.b))
      replace G0 := G0 z0
      clear hb2 hz2
      have HF := Lib.hid (HCC.out z0.v HB0.out k hlt)
      cases hb : b k with
      | true =>
        have HS := Lib.hid (allN_succ HP.out hb)
        rw [hb] at HF
        clear hb
        go_wp2_with fail
        refine (HF.out).mono ?_
        rintro e w3 ⟨rfl, hb3⟩
        obtain ⟨z, rfl⟩ : ∃ z : Ext w, w3 = z.v := ⟨⟨w3, bT HB0.out hb3⟩, rfl⟩
        clear hb3
        go_wp2
        go_roundw
        case rel => exact ⟨k + 1, by go_num, hlt, HS.out, z, rfl⟩
        case measure => first | (simp [intOf]; done) | (simp [intOf]; omega)
      | false =>
        have HS := Lib.hid (allN_bad hlt hb)
        rw [hb] at HF
        clear hb
        go_wp2_with fail
        refine (HF.out).mono ?_
        rintro e w3 ⟨rfl, hb3⟩
        have HB3 := Lib.hid (bT HB0.out hb3)
        clear hb3
        go_wp2
        go_ret
        exact ⟨ret_b HS.out.symm, HB3.out⟩
    · have HA := Lib.hid (show allN b n = true by have := HP.out; rwa [show k = n by omega] at this)
      have j : decide ((k : Int) < (n : Int)) = false := by simp; omega
      go_wp2
      go_ret
      exact ⟨ret_b HA.out.symm, y.b⟩
set_option maxRecDepth 100000 in
set_option maxHeartbeats 2000000 in
theorem isEachF_any (n c : Nat) (T : Tn) (b : Nat → Bool) (p : Option Addr) (gf : Nat) (caps : Array Value) (w : World) (hn : n ≤ maxLen) (h : At w w.heap.size p n 5 T.fact)
    (EG : ∀ (args : Array Value) (W : World), (callFunc gf args).run Tryd.prog W = .ok (.enter gf args) W)
    (HC : ∀ (V : World), Below w.heap.size w V → ∀ k, k < n → Calls Tryd.prog gf (#[.agg #[.int .i64 (T.ff k), .int .i64 (T.fm k), .int .i64 (T.ft k), .int .i64 (T.fl k), .int .i64 (T.fh k)]] ++ caps) V fun e V' => e = .returned (.bool (b k)) ∧ Below V.heap.size V V') :
    Calls Tryd.prog 105 #[.slice p n c, .func (.func gf) #[] caps] w fun e w' => e = .returned (.bool (allN b n)) ∧ Below w.heap.size w w' := by
  obtain ⟨x, hx⟩ := rebase w
  have HI : Hid (∀ y : Ext w, At y.v y.v.heap.size p n 5 T.fact) := fun y => h.bel y.b
  have HCC := Lib.hid HC
  clear h HC
  unfold maxLen at hn
  go_enter Tryd.func105, Tryd.ntmps105
  go_wp2
  go_loopw [9] (fun i wr => ∃ k : Nat, i = .int .i64 k ∧ k ≤ n ∧ allN b k = true ∧ ∃ x : Ext w, wr = x.v) (fun i _ => n - (intOf i).toNat)
  case atStart => exact ⟨0, rfl, Nat.zero_le _, rfl, x, by first | exact hx | rfl⟩
  case round =>
    clear hx x
    obtain ⟨k, rfl, hk, hp, y, rfl⟩ := hrel
    have HP := Lib.hid hp; clear hp
    by_cases hlt : k < n
    · obtain ⟨q, o, rfl, _, hc⟩ := HI.out y (by omega)
      obtain ⟨c0, c1, c2, c3, c4⟩ := fact_cells hc hlt
      clear hc
      have j : decide ((k : Int) < (n : Int)) = true := by simp; omega
      obtain ⟨w2, z0, hw2, hb2, hz2, G0, G1, G2, G3, G4, _⟩ := box_ft y.v (T.ff k) (T.fm k) (T.ft k) (T.fl k) (T.fh k)
      have HB0 := Lib.hid (bT y.b (bT hb2 z0.b))
      replace G0 := G0 z0; replace G1 := G1 z0; replace G2 := G2 z0; replace G3 := G3 z0; replace G4 := G4 z0
      clear hb2 hz2
      have HF := Lib.hid (HCC.out z0.v HB0.out k hlt)
      cases hb : b k with
      | true =>
        have HS := Lib.hid (allN_succ HP.out hb)
        rw [hb] at HF
        clear hb
        go_wp2_with fail
        refine (HF.out).mono ?_
        rintro e w3 ⟨rfl, hb3⟩
        obtain ⟨z, rfl⟩ : ∃ z : Ext w, w3 = z.v := ⟨⟨w3, bT HB0.out hb3⟩, rfl⟩
        clear hb3
        go_wp2
        go_roundw
        case rel => exact ⟨k + 1, by go_num, hlt, HS.out, z, rfl⟩
        case measure => first | (simp [intOf]; done) | (simp [intOf]; omega)
      | false =>
        have HS := Lib.hid (allN_bad hlt hb)
        rw [hb] at HF
        clear hb
        go_wp2_with fail
        refine (HF.out).mono ?_
        rintro e w3 ⟨rfl, hb3⟩
        have HB3 := Lib.hid (bT HB0.out hb3)
        clear hb3
        go_wp2
        go_ret
        exact ⟨ret_b HS.out.symm, HB3.out⟩
    · have HA := Lib.hid (show allN b n = true by have := HP.out; rwa [show k = n by omega] at this)
      have j : decide ((k : Int) < (n : Int)) = false := by simp; omega
      go_wp2
      go_ret
      exact ⟨ret_b HA.out.symm, y.b⟩
end Go.Proofs.YtdjkbpenppdnlaaDoor
