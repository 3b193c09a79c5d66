/- Boxes of mouths: small functions, and boxes in memory. -/
import Derived.Test.YthbicbmlbblflaaChecked

import Derived.Test.YthbicbmlbblflaaM1

import Derived.WalkKit

import Derived.WalkSpells

import Derived.WalkLawsBesides

import Derived.BigQuiet

import Derived.Deep.QuietTactic

import Derived.Deep.RegionHeld3

import Derived.IntWalk

import Derived.Lib.Hide

import Derived.RowKit3

import Derived.WalkSmall

import Derived.Deep.Light

set_option linter.unusedSimpArgs false

set_option linter.unusedVariables false

namespace Go.Proofs.Ythbicbmlbblflaa

open Go.RowKit

theorem bA {a w : World} (h : Below a.heap.size a w) (o : Obj) : Below a.heap.size a (w.alloc o) := h.alloc h.size o
theorem bT {a b c : World} (h : Below a.heap.size a b) (k : Below b.heap.size b c) : Below a.heap.size a c := h.trans (k.mono h.size)
theorem bD {a w : World} (h : Below a.heap.size a w) (n : Nat) : Below a.heap.size a (w.drewN n) := ⟨h.os, h.tape, h.output, h.size, h.block⟩
theorem bd {a w : World} (h : Below a.heap.size a w) : Below a.heap.size a w.drew := ⟨h.os, h.tape, h.output, h.size, h.block⟩
theorem bS {a w : World} (h : Below a.heap.size a w) {p : Addr} (hp : a.heap.size ≤ p.block) (u : Value) : Below a.heap.size a (w.setCell p u) := h.setCell hp u
theorem bdL {w w' : World} (h : Below w.drew.heap.size w.drew w') : Below w.heap.size w w' := ⟨h.os, h.tape, h.output, h.size, h.block⟩

/-- a world that came out of another one by making memory alone -/
structure Ext (w : World) where
  v : World
  b : Below w.heap.size w v
def Ext.up {w w2 : World} (h : Below w.heap.size w w2) (x : Ext w2) : Ext w := ⟨x.v, bT h x.b⟩
instance ext_some (w : World) : Nonempty (Ext w) := ⟨⟨w, Below.refl _ _⟩⟩
theorem quiet_lit {P : Program} {id : Nat} {Q : Exit → Act → World → Prop} {a : Act} {w : World} {l : List Oper} (hm : P.follows .mixedOrders = true) (hB : Region.lexB .any l.toArray = true)
    (h : wpQuiet P l.toArray (fun w' => ∃ x : Ext w, w' = x.v) (fun a' => ∀ w', (∃ x : Ext w, w' = x.v) → Q .normal a' w') l a) : (Code.region id l.toArray true).wp P Q a w :=
  wp_region_quiet (C := fun w' => ∃ x : Ext w, w' = x.v) hm hB ⟨⟨w.drew, bd (Below.refl _ _)⟩, rfl⟩ (by simpa using h)
theorem quiet_x {P : Program} {f : FuncId} {args : Array Value} {w : World} {x : Ext w} {v : Value} (h : Calls P f args x.v fun e w' => e = .returned v ∧ Below x.v.heap.size x.v w') :
    Calls P f args x.v fun e w' => e = .returned v ∧ ∃ y : Ext w, w' = y.v := h.mono fun _ w' ⟨he, hb⟩ => ⟨he, ⟨w', bT x.b hb⟩, rfl⟩
theorem quiet_s {P : Program} {f : FuncId} {args : Array Value} {w : World} {x : Ext w} {v : Value} (h : Calls P f args x.v fun e w' => e = .returned v ∧ x.v = w') :
    Calls P f args x.v fun e w' => e = .returned v ∧ ∃ y : Ext w, w' = y.v := h.mono fun _ w' ⟨he, hb⟩ => ⟨he, x, hb.symm⟩
theorem quiet_l {P : Program} {f : FuncId} {args : Array Value} {w : World} {n : Nat} {v : Value}
    (h : Calls P f args (w.drewN n) fun e w' => e = .returned v ∧ w.drewN n = w') : Calls P f args (w.drewN n) fun e w'' => e = .returned v ∧ ∃ m, w'' = w.drewN m :=
  h.mono fun _ _ ⟨he, hm⟩ => ⟨he, n, hm.symm⟩
theorem ret_b {a b : Bool} (h : a = b) : Ending.returned (.bool a) = .returned (.bool b) := by rw [h]
theorem ret_i {a b : Int} (h : a = b) : Ending.returned (.int .i64 a) = .returned (.int .i64 b) := by rw [h]

/-- l numbers lie at an address -/
def NumAt (w : World) (b o : Nat) (l : Nat) (f : Nat → Int) : Prop := ∀ k, k < l → w.cell? ⟨b, o + k, none⟩ = some (.int .i64 (f k))
theorem NumAt.below {w w' : World} {K b o l : Nat} {f : Nat → Int} (h : NumAt w b o l f) (hb : Below K w w') (hl : b < K) : NumAt w' b o l f := fun k hk => (hb.cell hl).trans (h k hk)
/-- a slice of l numbers lies below block K -/
def NumIn (w : World) (K : Nat) (l : Nat) (f : Nat → Int) (q : Option Addr) : Prop := 0 < l → ∃ b o, q = some ⟨b, o, none⟩ ∧ b < K ∧ NumAt w b o l f
theorem NumIn.below {w w' : World} {K l : Nat} {f : Nat → Int} {q : Option Addr} (h : NumIn w K l f q) (hb : Below K w w') : NumIn w' K l f q :=
  fun hs => let ⟨b, o, e, l, a⟩ := h hs; ⟨b, o, e, l, a.below hb l⟩
theorem NumIn.mono {w : World} {K K' l : Nat} {f : Nat → Int} {q : Option Addr} (h : NumIn w K l f q) (hb : K ≤ K') : NumIn w K' l f q :=
  fun hs => let ⟨b, o, e, l, a⟩ := h hs; ⟨b, o, e, Nat.lt_of_lt_of_le l hb, a⟩
theorem NumIn.bel {w w' : World} {l : Nat} {f : Nat → Int} {q : Option Addr} (h : NumIn w w.heap.size l f q) (hb : Below w.heap.size w w') : NumIn w' w'.heap.size l f q := (h.below hb).mono hb.size

theorem NumIn.cell {w : World} {K l b o : Nat} {f : Nat → Int} (h : NumIn w K l f (some ⟨b, o, none⟩)) {k : Nat} (hk : k < l) : b < K ∧ w.cell? ⟨b, o + k, none⟩ = some (.int .i64 (f k)) := by
  obtain ⟨b', o', e, hl, hc⟩ := h (by omega)
  cases e
  exact ⟨hl, hc k hk⟩
/-- the box lies in w below block K: its two slices' addresses are p and q -/
structure BxIn (w : World) (K : Nat) (D : Bx) (p q : Option Addr) : Prop where
  s : NumIn w K D.n D.sh p
  o : NumIn w K D.m D.mo q
theorem BxIn.below {w w' : World} {K : Nat} {D : Bx} {p q : Option Addr} (h : BxIn w K D p q) (hb : Below K w w') : BxIn w' K D p q := ⟨h.s.below hb, h.o.below hb⟩
theorem BxIn.mono {w : World} {K K' : Nat} {D : Bx} {p q : Option Addr} (h : BxIn w K D p q) (hb : K ≤ K') : BxIn w K' D p q := ⟨h.s.mono hb, h.o.mono hb⟩
theorem BxIn.bel {w w' : World} {D : Bx} {p q : Option Addr} (h : BxIn w w.heap.size D p q) (hb : Below w.heap.size w w') : BxIn w' w'.heap.size D p q := (h.below hb).mono hb.size
theorem rebase (w : World) : ∃ z : Ext w, w = z.v := ⟨⟨w, Below.refl _ _⟩, rfl⟩
theorem box_bx (w : World) (p q : Option Addr) (n m c d : Nat) :
    ∃ (w1 : World) (x : Ext w1), w.alloc (Obj.cells #[Value.slice p n c, Value.slice q m d] 24) = x.v ∧ Below w.heap.size w w1 ∧ w1.heap.size = w.heap.size + 1 ∧
      (∀ x : Ext w1, x.v.cell? ⟨w.heap.size, 0, none⟩ = some (.slice p n c)) ∧
      (∀ x : Ext w1, x.v.cell? ⟨w.heap.size, 1, none⟩ = some (.slice q m d)) := by
  have h0 : (w.alloc (Obj.cells #[Value.slice p n c, Value.slice q m d] 24)).cell? ⟨w.heap.size, 0, none⟩ = some (.slice p n c) := by go_simp
  have h1 : (w.alloc (Obj.cells #[Value.slice p n c, Value.slice q m d] 24)).cell? ⟨w.heap.size, 1, none⟩ = some (.slice q m d) := by go_simp
  exact ⟨_, ⟨_, Below.refl _ _⟩, rfl, bA (Below.refl _ _) _, by simp, fun x => (x.b.cell (p := ⟨w.heap.size, 0, none⟩) (by simp)).trans h0, fun x => (x.b.cell (p := ⟨w.heap.size, 1, none⟩) (by simp)).trans h1⟩
theorem box_fl (w : World) (p q : Option Addr) (n m c d : Nat) (fl : Int) :
    ∃ (w1 : World) (x : Ext w1), w.alloc (Obj.cells #[Value.slice p n c, Value.slice q m d, Value.int .i64 fl] 81) = x.v ∧ Below w.heap.size w w1 ∧ w1.heap.size = w.heap.size + 1 ∧
      (∀ x : Ext w1, x.v.cell? ⟨w.heap.size, 0, none⟩ = some (.slice p n c)) ∧
      (∀ x : Ext w1, x.v.cell? ⟨w.heap.size, 1, none⟩ = some (.slice q m d)) ∧
      (∀ x : Ext w1, x.v.cell? ⟨w.heap.size, 2, none⟩ = some (.int .i64 fl)) := by
  have h0 : (w.alloc (Obj.cells #[Value.slice p n c, Value.slice q m d, Value.int .i64 fl] 81)).cell? ⟨w.heap.size, 0, none⟩ = some (.slice p n c) := by go_simp
  have h1 : (w.alloc (Obj.cells #[Value.slice p n c, Value.slice q m d, Value.int .i64 fl] 81)).cell? ⟨w.heap.size, 1, none⟩ = some (.slice q m d) := by go_simp
  have h2 : (w.alloc (Obj.cells #[Value.slice p n c, Value.slice q m d, Value.int .i64 fl] 81)).cell? ⟨w.heap.size, 2, none⟩ = some (.int .i64 fl) := by go_simp
  exact ⟨_, ⟨_, Below.refl _ _⟩, rfl, bA (Below.refl _ _) _, by simp, fun x => (x.b.cell (p := ⟨w.heap.size, 0, none⟩) (by simp)).trans h0, fun x => (x.b.cell (p := ⟨w.heap.size, 1, none⟩) (by simp)).trans h1, fun x => (x.b.cell (p := ⟨w.heap.size, 2, none⟩) (by simp)).trans h2⟩
theorem box_dv (w : World) (g : Nat → Int) :
    ∃ (w1 : World) (x : Ext w1), w.alloc (Obj.cells #[Value.int .i64 (g 0), Value.int .i64 (g 1), Value.int .i64 (g 2), Value.int .i64 (g 3), Value.int .i64 (g 4)] 73) = x.v ∧ Below w.heap.size w w1 ∧ w1.heap.size = w.heap.size + 1 ∧
      (∀ x : Ext w1, x.v.cell? ⟨w.heap.size, 0, none⟩ = some (.int .i64 (g 0))) ∧
      (∀ x : Ext w1, x.v.cell? ⟨w.heap.size, 1, none⟩ = some (.int .i64 (g 1))) ∧
      (∀ x : Ext w1, x.v.cell? ⟨w.heap.size, 2, none⟩ = some (.int .i64 (g 2))) ∧
      (∀ x : Ext w1, x.v.cell? ⟨w.heap.size, 3, none⟩ = some (.int .i64 (g 3))) ∧
      (∀ x : Ext w1, x.v.cell? ⟨w.heap.size, 4, none⟩ = some (.int .i64 (g 4))) ∧ (∀ (x : Ext w1) i, x.v.frozen? ⟨w.heap.size, i, none⟩ = false) := by
  have h0 : (w.alloc (Obj.cells #[Value.int .i64 (g 0), Value.int .i64 (g 1), Value.int .i64 (g 2), Value.int .i64 (g 3), Value.int .i64 (g 4)] 73)).cell? ⟨w.heap.size, 0, none⟩ = some (.int .i64 (g 0)) := by go_simp
  have h1 : (w.alloc (Obj.cells #[Value.int .i64 (g 0), Value.int .i64 (g 1), Value.int .i64 (g 2), Value.int .i64 (g 3), Value.int .i64 (g 4)] 73)).cell? ⟨w.heap.size, 1, none⟩ = some (.int .i64 (g 1)) := by go_simp
  have h2 : (w.alloc (Obj.cells #[Value.int .i64 (g 0), Value.int .i64 (g 1), Value.int .i64 (g 2), Value.int .i64 (g 3), Value.int .i64 (g 4)] 73)).cell? ⟨w.heap.size, 2, none⟩ = some (.int .i64 (g 2)) := by go_simp
  have h3 : (w.alloc (Obj.cells #[Value.int .i64 (g 0), Value.int .i64 (g 1), Value.int .i64 (g 2), Value.int .i64 (g 3), Value.int .i64 (g 4)] 73)).cell? ⟨w.heap.size, 3, none⟩ = some (.int .i64 (g 3)) := by go_simp
  have h4 : (w.alloc (Obj.cells #[Value.int .i64 (g 0), Value.int .i64 (g 1), Value.int .i64 (g 2), Value.int .i64 (g 3), Value.int .i64 (g 4)] 73)).cell? ⟨w.heap.size, 4, none⟩ = some (.int .i64 (g 4)) := by go_simp
  have hf : ∀ i, (w.alloc (Obj.cells #[Value.int .i64 (g 0), Value.int .i64 (g 1), Value.int .i64 (g 2), Value.int .i64 (g 3), Value.int .i64 (g 4)] 73)).frozen? ⟨w.heap.size, i, none⟩ = false := fun i => by go_simp
  exact ⟨_, ⟨_, Below.refl _ _⟩, rfl, bA (Below.refl _ _) _, by simp, fun x => (x.b.cell (p := ⟨w.heap.size, 0, none⟩) (by simp)).trans h0, fun x => (x.b.cell (p := ⟨w.heap.size, 1, none⟩) (by simp)).trans h1, fun x => (x.b.cell (p := ⟨w.heap.size, 2, none⟩) (by simp)).trans h2, fun x => (x.b.cell (p := ⟨w.heap.size, 3, none⟩) (by simp)).trans h3, fun x => (x.b.cell (p := ⟨w.heap.size, 4, none⟩) (by simp)).trans h4, fun x i => (x.b.frozen (p := ⟨w.heap.size, i, none⟩) (by simp)).trans (hf i)⟩
theorem box_ask (w : World) (a b c d : Int) :
    ∃ (w1 : World) (x : Ext w1), w.alloc (Obj.cells #[Value.int .i64 a, Value.int .i64 b, Value.int .i64 c, Value.int .i64 d] 38) = x.v ∧ Below w.heap.size w w1 ∧ w1.heap.size = w.heap.size + 1 ∧
      (∀ x : Ext w1, x.v.cell? ⟨w.heap.size, 0, none⟩ = some (.int .i64 a)) ∧
      (∀ x : Ext w1, x.v.cell? ⟨w.heap.size, 1, none⟩ = some (.int .i64 b)) ∧
      (∀ x : Ext w1, x.v.cell? ⟨w.heap.size, 2, none⟩ = some (.int .i64 c)) ∧
      (∀ x : Ext w1, x.v.cell? ⟨w.heap.size, 3, none⟩ = some (.int .i64 d)) := by
  have h0 : (w.alloc (Obj.cells #[Value.int .i64 a, Value.int .i64 b, Value.int .i64 c, Value.int .i64 d] 38)).cell? ⟨w.heap.size, 0, none⟩ = some (.int .i64 a) := by go_simp
  have h1 : (w.alloc (Obj.cells #[Value.int .i64 a, Value.int .i64 b, Value.int .i64 c, Value.int .i64 d] 38)).cell? ⟨w.heap.size, 1, none⟩ = some (.int .i64 b) := by go_simp
  have h2 : (w.alloc (Obj.cells #[Value.int .i64 a, Value.int .i64 b, Value.int .i64 c, Value.int .i64 d] 38)).cell? ⟨w.heap.size, 2, none⟩ = some (.int .i64 c) := by go_simp
  have h3 : (w.alloc (Obj.cells #[Value.int .i64 a, Value.int .i64 b, Value.int .i64 c, Value.int .i64 d] 38)).cell? ⟨w.heap.size, 3, none⟩ = some (.int .i64 d) := by go_simp
  exact ⟨_, ⟨_, Below.refl _ _⟩, rfl, bA (Below.refl _ _) _, by simp, fun x => (x.b.cell (p := ⟨w.heap.size, 0, none⟩) (by simp)).trans h0, fun x => (x.b.cell (p := ⟨w.heap.size, 1, none⟩) (by simp)).trans h1, fun x => (x.b.cell (p := ⟨w.heap.size, 2, none⟩) (by simp)).trans h2, fun x => (x.b.cell (p := ⟨w.heap.size, 3, none⟩) (by simp)).trans h3⟩
theorem box_one (w : World) (a : Int) :
    ∃ (w1 : World) (x : Ext w1), w.alloc (Obj.cells #[Value.int .i64 a] 3) = x.v ∧ Below w.heap.size w w1 ∧ w1.heap.size = w.heap.size + 1 ∧
      (∀ x : Ext w1, x.v.cell? ⟨w.heap.size, 0, none⟩ = some (.int .i64 a)) ∧ (∀ (x : Ext w1) i, x.v.frozen? ⟨w.heap.size, i, none⟩ = false) := by
  have h0 : (w.alloc (Obj.cells #[Value.int .i64 a] 3)).cell? ⟨w.heap.size, 0, none⟩ = some (.int .i64 a) := by go_simp
  have hf : ∀ i, (w.alloc (Obj.cells #[Value.int .i64 a] 3)).frozen? ⟨w.heap.size, i, none⟩ = false := fun i => by go_simp
  exact ⟨_, ⟨_, Below.refl _ _⟩, rfl, bA (Below.refl _ _) _, by simp, fun x => (x.b.cell (p := ⟨w.heap.size, 0, none⟩) (by simp)).trans h0, fun x i => (x.b.frozen (p := ⟨w.heap.size, i, none⟩) (by simp)).trans (hf i)⟩

theorem within1_any (n lo hi : Int) (w : World) :
    Calls Try.prog 52 #[.int .i64 n, .int .i64 lo, .int .i64 hi] w fun e w' => e = .returned (.bool (within n lo hi)) ∧ w = w' := by
  go_enter Try.func52, Try.ntmps52
  go_wp2
  · go_ret
    have h : lo ≤ n := by assumption
    exact ⟨ret_b (within_eq h).symm, rfl⟩
  · go_ret
    have h : n < lo := by assumption
    exact ⟨ret_b (within_lo h).symm, rfl⟩
theorem within_any (n lo hi : Int) (w : World) :
    Calls Try.prog 61 #[.int .i64 n, .int .i64 lo, .int .i64 hi] w fun e w' => e = .returned (.bool (within n lo hi)) ∧ w = w' := by
  go_enter Try.func61, Try.ntmps61
  go_wp2_with (go_at_call 52; refine (within1_any _ _ _ _).mono ?_; rintro e w' ⟨rfl, rfl⟩)
  go_ret
  exact ⟨rfl, rfl⟩
theorem isFlowR_any (n : Int) (w : World) :
    Calls Try.prog 58 #[.int .i64 n] w fun e w' => e = .returned (.bool (within n 0 40)) ∧ w = w' := by
  go_enter Try.func58, Try.ntmps58
  go_wp2_with (go_at_call 61; refine (within_any _ _ _ _).mono ?_; rintro e w' ⟨rfl, rfl⟩)
  go_ret
  exact ⟨rfl, rfl⟩
theorem isGaugesR_any (n : Int) (w : World) :
    Calls Try.prog 57 #[.int .i64 n] w fun e w' => e = .returned (.bool (within n 1 20)) ∧ w = w' := by
  go_enter Try.func57, Try.ntmps57
  go_wp2_with (go_at_call 61; refine (within_any _ _ _ _).mono ?_; rintro e w' ⟨rfl, rfl⟩)
  go_ret
  exact ⟨rfl, rfl⟩
theorem isGaugeR_any (n : Int) (w : World) :
    Calls Try.prog 71 #[.int .i64 n] w fun e w' => e = .returned (.bool (within n 0 39)) ∧ w = w' := by
  go_enter Try.func71, Try.ntmps71
  go_wp2_with (go_at_call 61; refine (within_any _ _ _ _).mono ?_; rintro e w' ⟨rfl, rfl⟩)
  go_ret
  exact ⟨rfl, rfl⟩
def isQ (D : Bx) (k : Int) : Bool := within k 0 ((D.n : Int) - 1)
theorem isQ_iff {D : Bx} {k : Int} : isQ D k = true ↔ 0 ≤ k ∧ k < (D.n : Int) := by unfold isQ; rw [within_iff]; omega
theorem isQuarterR_any (D : Bx) (p q : Option Addr) (c d : Nat) (k : Int) (w : World) (hn : D.n ≤ 40) :
    Calls Try.prog 50 #[.agg #[.slice p D.n c, .slice q D.m d], .int .i64 k] w fun e w' => e = .returned (.bool (isQ D k)) ∧ Below w.heap.size w w' := by
  obtain ⟨w1, x, hw1, hb1, hz1, F0, F1⟩ := box_bx w p q D.n D.m c d
  have HB := Lib.hid hb1
  clear hb1 hz1
  go_enter Try.func50, Try.ntmps50
  go_wp2_with (go_at_call 61; refine (within_any _ _ _ _).mono ?_; rintro e w' ⟨rfl, rfl⟩)
  go_ret
  exact ⟨rfl, bT HB.out x.b⟩
theorem isQuarter_any (D : Bx) (p q : Option Addr) (c d : Nat) (k : Int) (w : World) :
    Calls Try.prog 73 #[.agg #[.slice p D.n c, .slice q D.m d], .int .i64 k] w fun e w' => e = .returned (.bool (isQ D k)) ∧ Below w.heap.size w w' := by
  obtain ⟨w1, x, hw1, hb1, hz1, F0, F1⟩ := box_bx w p q D.n D.m c d
  have HB := Lib.hid hb1
  clear hb1 hz1
  go_enter Try.func73, Try.ntmps73
  go_wp2
  all_goals
    go_ret
    refine ⟨ret_b ?_, bT HB.out x.b⟩
    clear HB F0 F1 hw1; go_light; rw [Bool.eq_iff_iff]; simp only [isQ, within_iff, decide_eq_true_eq]; (first | omega | (simp; omega))
theorem areFrom_any (lo hi : Int) (l c : Nat) (f : Nat → Int) (q : Option Addr) (w : World) (hl : l ≤ 1000) (hi' : NumIn w w.heap.size l f q) :
    Calls Try.prog 83 #[.int .i64 lo, .int .i64 hi, .slice q l c] w fun e w' => e = .returned (.bool (allW f lo hi l)) ∧ w = w' := by
  have HI := Lib.hid hi'; clear hi'
  go_enter Try.func83, Try.ntmps83
  go_wp2
  go_loopw [11] (fun i wr => ∃ k : Nat, i = .int .i64 k ∧ k ≤ l ∧ allW f lo hi k = true ∧ wr = w) (fun i _ => l - (intOf i).toNat)
  case atStart => exact ⟨0, rfl, Nat.zero_le _, rfl, rfl⟩
  case round =>
    obtain ⟨k, rfl, hk, hp, rfl⟩ := hrel
    have HP := Lib.hid hp; clear hp
    by_cases hlt : k < l
    · obtain ⟨b, o, rfl, _, hc⟩ := HI.out (by omega)
      have e0 := hc k hlt
      clear hc
      have j : decide ((k : Int) < (l : Int)) = true := by simp; omega
      by_cases h1 : f k < lo
      · have HR := Lib.hid (show allW f lo hi l = false from allN_bad hlt (within_lo h1))
        have j1 : decide (f k < lo) = true := by simpa using h1
        clear h1
        go_wp2
        go_ret
        exact ⟨ret_b HR.out.symm, rfl⟩
      · have j1 : decide (f k < lo) = false := by simpa using h1
        by_cases h2 : hi < f k
        · have HR := Lib.hid (show allW f lo hi l = false from allN_bad hlt (within_hi h2))
          have j2 : decide (hi < f k) = true := by simpa using h2
          clear h1 h2
          go_wp2
          go_ret
          exact ⟨ret_b HR.out.symm, rfl⟩
        · have HR := Lib.hid (show allW f lo hi (k + 1) = true from allN_succ HP.out (within_tt (by omega) (by omega)))
          have j2 : decide (hi < f k) = false := by simpa using h2
          clear h1 h2
          go_wp2
          go_roundw
          case rel => exact ⟨k + 1, by go_num, hlt, HR.out, by first | rfl | trivial⟩
          case measure => first | (simp [intOf]; done) | (simp [intOf]; omega)
    · have HR := Lib.hid (show allW f lo hi l = true by have := HP.out; rwa [show k = l by omega] at this)
      have j : decide ((k : Int) < (l : Int)) = false := by simp; omega
      clear HP
      go_wp2
      go_ret
      exact ⟨ret_b HR.out.symm, rfl⟩
end Go.Proofs.Ythbicbmlbblflaa
