/- Towns with worlds: areUpTo, areWells, canBeSeen, valid and Check of the program. -/
import Derived.Test.YtdjkbpenppdnlaaDoorE1

import Derived.RangeFuncCalls

import Derived.RangeFuncBound

import Derived.Shelf.Abstract

set_option linter.unusedSimpArgs false

set_option linter.unusedVariables false

namespace Go.Proofs.YtdjkbpenppdnlaaDoor

open Go.RowKit

theorem en_any {gf : Nat} (h : ∀ (args : Array Value) (W : World), (callFunc gf args).run Tryd.prog W = .ok (.enter gf args) W) (args : Array Value) (W : World) : (callFunc gf args).run Tryd.prog W = .ok (.enter gf args) W := h args W
theorem en1 (args : Array Value) (W : World) : (callFunc 132 args).run Tryd.prog W = .ok (.enter 132 args) W := enters_of Tryd.func132 (by kernel_rfl) rfl args W
theorem en2 (args : Array Value) (W : World) : (callFunc 100 args).run Tryd.prog W = .ok (.enter 100 args) W := enters_of Tryd.func100 (by kernel_rfl) rfl args W
theorem en3 (args : Array Value) (W : World) : (callFunc 102 args).run Tryd.prog W = .ok (.enter 102 args) W := enters_of Tryd.func102 (by kernel_rfl) rfl args W
theorem en4 (args : Array Value) (W : World) : (callFunc 106 args).run Tryd.prog W = .ok (.enter 106 args) W := enters_of Tryd.func106 (by kernel_rfl) rfl args W
theorem en5 (args : Array Value) (W : World) : (callFunc 115 args).run Tryd.prog W = .ok (.enter 115 args) W := enters_of Tryd.func115 (by kernel_rfl) rfl args W
theorem box_i (w : World) (a : Int) :
    ∃ (w1 : World) (x : Ext w1), w.alloc (Obj.cells #[Value.int .i64 a] 3) = x.v ∧ Below w.heap.size w w1 ∧ w1.heap.size = w.heap.size + 1 ∧
      (∀ x : Ext w1, x.v.cell? ⟨w.heap.size, 0, none⟩ = some (.int .i64 a)) := by
  have h0 : (w.alloc (Obj.cells #[Value.int .i64 a] 3)).cell? ⟨w.heap.size, 0, none⟩ = some (.int .i64 a) := by go_simp
  exact ⟨_, ⟨_, Below.refl _ _⟩, rfl, bA (Below.refl _ _) _, by simp, fun x => (x.b.cell (p := ⟨w.heap.size, 0, none⟩) (by simp)).trans h0⟩
theorem upTo1_any (n most : Int) (g : Nat) (W : World) (hc : W.cell? ⟨g, 0, none⟩ = some (.int .i64 most)) :
    Calls Tryd.prog 132 (#[.int .i64 n] ++ #[.pointer (some ⟨g, 0, none⟩)]) W fun e W' => e = .returned (.bool (within n 0 most)) ∧ Below W.heap.size W W' := by
  show Calls Tryd.prog 132 #[.int .i64 n, .pointer (some ⟨g, 0, none⟩)] W _
  go_enter Tryd.func132, Tryd.ntmps132
  go_wp2_with (go_at_call 99; refine (isFrom_any _ _ _ _).mono ?_; rintro e w' ⟨rfl, rfl⟩)
  go_ret
  exact ⟨rfl, Below.refl _ _⟩
set_option maxRecDepth 100000 in
set_option maxHeartbeats 1000000 in
theorem areUpTo_any (n c : Nat) (f : Nat → Int) (p : Option Addr) (many most : Int) (w : World) (hn : n ≤ maxLen) (h : At w w.heap.size p n 1 (fun k => .int .i64 (f k))) :
    Calls Tryd.prog 101 #[.slice p n c, .int .i64 many, .int .i64 most] w fun e w' => e = .returned (.bool (decide ((n : Int) = many) && allN (fun k => within (f k) 0 most) n)) ∧ Below w.heap.size w w' := by
  obtain ⟨w1, x, hw1, hb1, hz1, F0⟩ := box_i w most
  have HB := Lib.hid hb1
  have HC := Lib.hid (isEachI_any n c f (fun k => within (f k) 0 most) p 132 #[.pointer (some ⟨w.heap.size, 0, none⟩)] x.v hn (h.bel (bT hb1 x.b)) en1 (fun V hV k _ => upTo1_any _ _ _ V (F0 ⟨V, bT x.b hV⟩)))
  unfold maxLen at hn
  clear hb1 hz1 h F0
  by_cases he : (n : Int) = many
  · have j : ((n : Int) == many) = true := by simpa using he
    have HE := Lib.hid he; clear he
    go_enter Tryd.func101, Tryd.ntmps101
    go_wp2_with fail
    refine (HC.out).mono ?_
    rintro e w3 ⟨rfl, hb3⟩
    have HB3 := Lib.hid (bT HB.out (bT x.b hb3)); clear hb3
    go_wp2
    go_ret
    exact ⟨ret_b (by rw [HE.out]; simp), HB3.out⟩
  · have j : ((n : Int) == many) = false := by simpa using he
    have HE := Lib.hid he; clear he
    go_enter Tryd.func101, Tryd.ntmps101
    go_wp2
    go_ret
    exact ⟨ret_b (by simp [HE.out]), bT HB.out x.b⟩
theorem valid1_any (T : Tn) (A : Adr) (k i g : Nat) (W : World) (hc : W.cell? ⟨g, 0, none⟩ = some (.int .i64 T.wn)) (hn : T.cl k i ≤ maxLen) (h : At W W.heap.size (A.ip k i) (T.cl k i) 1 (fun j => .int .i64 (T.fa k i j))) :
    Calls Tryd.prog 100 (#[.slice (A.ip k i) (T.cl k i) (A.ic k i)] ++ #[.pointer (some ⟨g, 0, none⟩)]) W fun e W' => e = .returned (.bool (T.rowOk k i)) ∧ Below W.heap.size W W' := by
  show Calls Tryd.prog 100 #[.slice (A.ip k i) (T.cl k i) (A.ic k i), .pointer (some ⟨g, 0, none⟩)] W _
  have HU := Lib.hid (areUpTo_any (T.cl k i) (A.ic k i) (T.fa k i) (A.ip k i) T.wn 9 W hn h)
  clear h hn
  go_enter Tryd.func100, Tryd.ntmps100
  go_wp2_with fail
  refine (HU.out).mono ?_
  rintro e w3 ⟨rfl, hb3⟩
  have HB3 := Lib.hid hb3; clear hb3
  go_wp2
  go_ret
  exact ⟨rfl, HB3.out⟩
set_option maxRecDepth 100000 in
set_option maxHeartbeats 1000000 in
theorem valid2_any (T : Tn) (A : Adr) (k g q : Nat) (W : World) (hk : k < T.nw) (hc : W.cell? ⟨g, 0, none⟩ = some (.int .i64 T.wn)) (hq : W.cell? ⟨q, 0, none⟩ = some (.func (.func 100) #[] #[.pointer (some ⟨g, 0, none⟩)]))
    (hg : g < W.heap.size) (hq2 : q < W.heap.size) (hl : T.rl k ≤ maxLen) (hcl : ∀ i, i < T.rl k → T.cl k i ≤ maxLen) (h : TnIn W W.heap.size T A) :
    Calls Tryd.prog 102 (#[.agg #[.slice (A.rp k) (T.rl k) (A.rc k)]] ++ #[.pointer (some ⟨g, 0, none⟩), .pointer (some ⟨q, 0, none⟩)]) W fun e W' => e = .returned (.bool (T.worldOk k)) ∧ Below W.heap.size W W' := by
  show Calls Tryd.prog 102 #[.agg #[.slice (A.rp k) (T.rl k) (A.rc k)], .pointer (some ⟨g, 0, none⟩), .pointer (some ⟨q, 0, none⟩)] W _
  obtain ⟨w1, x, hw1, hb1, hz1, F0, _⟩ := box_wd W (A.rp k) (T.rl k) (A.rc k)
  replace F0 := F0 x
  have hbx := bT hb1 x.b
  have c0 : x.v.cell? ⟨g, 0, none⟩ = some (.int .i64 T.wn) := (hbx.cell (p := ⟨g, 0, none⟩) hg).trans hc
  have c1 : x.v.cell? ⟨q, 0, none⟩ = some (.func (.func 100) #[] #[.pointer (some ⟨g, 0, none⟩)]) := (hbx.cell (p := ⟨q, 0, none⟩) hq2).trans hq
  have HB := Lib.hid hbx
  have HC := Lib.hid (isEachL_any (T.rl k) (A.rc k) (fun i => .slice (A.ip k i) (T.cl k i) (A.ic k i)) (T.rowOk k) (A.rp k) 100 #[.pointer (some ⟨g, 0, none⟩)] x.v hl ((h.bel hbx).rs k hk) en2
    (fun V hV i hi => valid1_any T A k i g V ((hV.cell (p := ⟨g, 0, none⟩) (Nat.lt_of_lt_of_le hg hbx.size)).trans c0) (hcl i hi) (((h.bel hbx).bel hV).is k hk i hi)))
  unfold maxLen at hl
  clear hb1 hz1 h hbx hcl
  by_cases he : (T.rl k : Int) = T.wn
  · have j : ((T.rl k : Int) == T.wn) = true := by simpa using he
    have HE := Lib.hid he; clear he
    go_enter Tryd.func102, Tryd.ntmps102
    go_wp2_with fail
    refine (HC.out).mono ?_
    rintro e w3 ⟨rfl, hb3⟩
    have HB3 := Lib.hid (bT HB.out hb3); clear hb3
    go_wp2
    go_ret
    exact ⟨ret_b (by unfold Tn.worldOk; rw [HE.out]; simp), HB3.out⟩
  · have j : ((T.rl k : Int) == T.wn) = false := by simpa using he
    have HE := Lib.hid he; clear he
    go_enter Tryd.func102, Tryd.ntmps102
    go_wp2
    go_ret
    exact ⟨ret_b (by unfold Tn.worldOk; simp [HE.out]), HB.out⟩
end Go.Proofs.YtdjkbpenppdnlaaDoor
