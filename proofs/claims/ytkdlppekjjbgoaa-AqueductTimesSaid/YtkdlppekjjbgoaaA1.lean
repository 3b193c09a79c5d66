/- Lines of an aqueduct: small functions, and lines in memory. -/
import Derived.Test.YtkdlppekjjbgoaaChecked

import Derived.Test.YtkdlppekjjbgoaaM1

import Derived.WalkKit

import Derived.WalkSpells

import Derived.WalkLawsBesides

import Derived.BigQuiet

import Derived.Deep.QuietTactic

import Derived.Deep.RegionHeld3

import Derived.IntWalk

import Derived.Lib.Hide

import Derived.RowKit3

import Derived.WalkSmall

import Derived.Deep.Light

set_option linter.unusedSimpArgs false

set_option linter.unusedVariables false

namespace Go.Proofs.Ytkdlppekjjbgoaa

open Go.RowKit

theorem bA {a w : World} (h : Below a.heap.size a w) (o : Obj) : Below a.heap.size a (w.alloc o) := h.alloc h.size o
theorem bT {a b c : World} (h : Below a.heap.size a b) (k : Below b.heap.size b c) : Below a.heap.size a c := h.trans (k.mono h.size)
theorem bD {a w : World} (h : Below a.heap.size a w) (n : Nat) : Below a.heap.size a (w.drewN n) := ⟨h.os, h.tape, h.output, h.size, h.block⟩
theorem bd {a w : World} (h : Below a.heap.size a w) : Below a.heap.size a w.drew := ⟨h.os, h.tape, h.output, h.size, h.block⟩
theorem bS {a w : World} (h : Below a.heap.size a w) {p : Addr} (hp : a.heap.size ≤ p.block) (u : Value) : Below a.heap.size a (w.setCell p u) := h.setCell hp u
theorem bdL {w w' : World} (h : Below w.drew.heap.size w.drew w') : Below w.heap.size w w' := ⟨h.os, h.tape, h.output, h.size, h.block⟩

/-- a world that came out of another one by making memory alone -/
structure Ext (w : World) where
  v : World
  b : Below w.heap.size w v
def Ext.up {w w2 : World} (h : Below w.heap.size w w2) (x : Ext w2) : Ext w := ⟨x.v, bT h x.b⟩
instance ext_some (w : World) : Nonempty (Ext w) := ⟨⟨w, Below.refl _ _⟩⟩
theorem quiet_lit {P : Program} {id : Nat} {Q : Exit → Act → World → Prop} {a : Act} {w : World} {l : List Oper} (hm : P.follows .mixedOrders = true) (hB : Region.lexB .any l.toArray = true)
    (h : wpQuiet P l.toArray (fun w' => ∃ x : Ext w, w' = x.v) (fun a' => ∀ w', (∃ x : Ext w, w' = x.v) → Q .normal a' w') l a) : (Code.region id l.toArray true).wp P Q a w :=
  wp_region_quiet (C := fun w' => ∃ x : Ext w, w' = x.v) hm hB ⟨⟨w.drew, bd (Below.refl _ _)⟩, rfl⟩ (by simpa using h)
theorem quiet_x {P : Program} {f : FuncId} {args : Array Value} {w : World} {x : Ext w} {v : Value} (h : Calls P f args x.v fun e w' => e = .returned v ∧ Below x.v.heap.size x.v w') :
    Calls P f args x.v fun e w' => e = .returned v ∧ ∃ y : Ext w, w' = y.v := h.mono fun _ w' ⟨he, hb⟩ => ⟨he, ⟨w', bT x.b hb⟩, rfl⟩
theorem quiet_s {P : Program} {f : FuncId} {args : Array Value} {w : World} {x : Ext w} {v : Value} (h : Calls P f args x.v fun e w' => e = .returned v ∧ x.v = w') :
    Calls P f args x.v fun e w' => e = .returned v ∧ ∃ y : Ext w, w' = y.v := h.mono fun _ w' ⟨he, hb⟩ => ⟨he, x, hb.symm⟩
theorem quiet_l {P : Program} {f : FuncId} {args : Array Value} {w : World} {n : Nat} {v : Value}
    (h : Calls P f args (w.drewN n) fun e w' => e = .returned v ∧ w.drewN n = w') : Calls P f args (w.drewN n) fun e w'' => e = .returned v ∧ ∃ m, w'' = w.drewN m :=
  h.mono fun _ _ ⟨he, hm⟩ => ⟨he, n, hm.symm⟩
theorem ret_b {a b : Bool} (h : a = b) : Ending.returned (.bool a) = .returned (.bool b) := by rw [h]
theorem ret_i {a b : Int} (h : a = b) : Ending.returned (.int .i64 a) = .returned (.int .i64 b) := by rw [h]

structure PtAt (w : World) (b o : Nat) (D : Duct) : Prop where
  c0 : ∀ k, k < D.n → w.cell? ⟨b, o + k * 3, none⟩ = some (.int .i64 (D.lo k))
  c1 : ∀ k, k < D.n → w.cell? ⟨b, o + k * 3 + 1, none⟩ = some (.int .i64 (D.hi k))
  c2 : ∀ k, k < D.n → w.cell? ⟨b, o + k * 3 + 2, none⟩ = some (.int .i64 (D.co k))
theorem PtAt.below {w w' : World} {K b o : Nat} {D : Duct} (h : PtAt w b o D) (hb : Below K w w') (hl : b < K) : PtAt w' b o D :=
  ⟨fun k hk => (hb.cell hl).trans (h.c0 k hk), fun k hk => (hb.cell hl).trans (h.c1 k hk), fun k hk => (hb.cell hl).trans (h.c2 k hk)⟩
/-- l numbers lie at an address -/
def NumAt (w : World) (b o : Nat) (l : Nat) (f : Nat → Int) : Prop := ∀ k, k < l → w.cell? ⟨b, o + k, none⟩ = some (.int .i64 (f k))
theorem NumAt.below {w w' : World} {K b o l : Nat} {f : Nat → Int} (h : NumAt w b o l f) (hb : Below K w w') (hl : b < K) : NumAt w' b o l f := fun k hk => (hb.cell hl).trans (h k hk)
/-- a slice of l numbers lies below block K -/
def NumIn (w : World) (K : Nat) (l : Nat) (f : Nat → Int) (q : Option Addr) : Prop := 0 < l → ∃ b o, q = some ⟨b, o, none⟩ ∧ b < K ∧ NumAt w b o l f
theorem NumIn.below {w w' : World} {K l : Nat} {f : Nat → Int} {q : Option Addr} (h : NumIn w K l f q) (hb : Below K w w') : NumIn w' K l f q :=
  fun hs => let ⟨b, o, e, l, a⟩ := h hs; ⟨b, o, e, l, a.below hb l⟩
theorem NumIn.mono {w : World} {K K' l : Nat} {f : Nat → Int} {q : Option Addr} (h : NumIn w K l f q) (hb : K ≤ K') : NumIn w K' l f q :=
  fun hs => let ⟨b, o, e, l, a⟩ := h hs; ⟨b, o, e, Nat.lt_of_lt_of_le l hb, a⟩
theorem NumIn.bel {w w' : World} {l : Nat} {f : Nat → Int} {q : Option Addr} (h : NumIn w w.heap.size l f q) (hb : Below w.heap.size w w') : NumIn w' w'.heap.size l f q := (h.below hb).mono hb.size
/-- the line lies in w below block K: its two slices' addresses are p and q -/
structure DuctIn (w : World) (K : Nat) (D : Duct) (p q : Option Addr) : Prop where
  pt : 0 < D.n → ∃ b o, p = some ⟨b, o, none⟩ ∧ b < K ∧ PtAt w b o D
  od : NumIn w K D.m D.od q
theorem DuctIn.below {w w' : World} {K : Nat} {D : Duct} {p q : Option Addr} (h : DuctIn w K D p q) (hb : Below K w w') : DuctIn w' K D p q :=
  ⟨fun hs => let ⟨b, o, e, l, a⟩ := h.pt hs; ⟨b, o, e, l, a.below hb l⟩, h.od.below hb⟩
theorem DuctIn.mono {w : World} {K K' : Nat} {D : Duct} {p q : Option Addr} (h : DuctIn w K D p q) (hb : K ≤ K') : DuctIn w K' D p q :=
  ⟨fun hs => let ⟨b, o, e, l, a⟩ := h.pt hs; ⟨b, o, e, Nat.lt_of_lt_of_le l hb, a⟩, h.od.mono hb⟩
theorem DuctIn.bel {w w' : World} {D : Duct} {p q : Option Addr} (h : DuctIn w w.heap.size D p q) (hb : Below w.heap.size w w') : DuctIn w' w'.heap.size D p q := (h.below hb).mono hb.size

theorem box_line (w : World) (p q : Option Addr) (n m c d : Nat) :
    ∃ (w1 : World) (x : Ext w1), w.alloc (Obj.cells #[Value.slice p n c, Value.slice q m d] 25) = x.v ∧ Below w.heap.size w w1 ∧ w1.heap.size = w.heap.size + 1 ∧
      (∀ x : Ext w1, x.v.cell? ⟨w.heap.size, 0, none⟩ = some (.slice p n c)) ∧ (∀ x : Ext w1, x.v.cell? ⟨w.heap.size, 1, none⟩ = some (.slice q m d)) := by
  have h0 : (w.alloc (Obj.cells #[Value.slice p n c, Value.slice q m d] 25)).cell? ⟨w.heap.size, 0, none⟩ = some (.slice p n c) := by go_simp
  have h1 : (w.alloc (Obj.cells #[Value.slice p n c, Value.slice q m d] 25)).cell? ⟨w.heap.size, 1, none⟩ = some (.slice q m d) := by go_simp
  exact ⟨_, ⟨_, Below.refl _ _⟩, rfl, bA (Below.refl _ _) _, by simp, fun x => (x.b.cell (p := ⟨w.heap.size, 0, none⟩) (by simp)).trans h0, fun x => (x.b.cell (p := ⟨w.heap.size, 1, none⟩) (by simp)).trans h1⟩
theorem box_point (w : World) (a b c : Int) :
    ∃ (w1 : World) (x : Ext w1), w.alloc (Obj.cells #[Value.int .i64 a, Value.int .i64 b, Value.int .i64 c] 39) = x.v ∧ Below w.heap.size w w1 ∧ w1.heap.size = w.heap.size + 1 ∧
      (∀ x : Ext w1, x.v.cell? ⟨w.heap.size, 0, none⟩ = some (.int .i64 a)) ∧ (∀ x : Ext w1, x.v.cell? ⟨w.heap.size, 1, none⟩ = some (.int .i64 b)) ∧ (∀ x : Ext w1, x.v.cell? ⟨w.heap.size, 2, none⟩ = some (.int .i64 c)) := by
  have h0 : (w.alloc (Obj.cells #[Value.int .i64 a, Value.int .i64 b, Value.int .i64 c] 39)).cell? ⟨w.heap.size, 0, none⟩ = some (.int .i64 a) := by go_simp
  have h1 : (w.alloc (Obj.cells #[Value.int .i64 a, Value.int .i64 b, Value.int .i64 c] 39)).cell? ⟨w.heap.size, 1, none⟩ = some (.int .i64 b) := by go_simp
  have h2 : (w.alloc (Obj.cells #[Value.int .i64 a, Value.int .i64 b, Value.int .i64 c] 39)).cell? ⟨w.heap.size, 2, none⟩ = some (.int .i64 c) := by go_simp
  exact ⟨_, ⟨_, Below.refl _ _⟩, rfl, bA (Below.refl _ _) _, by simp, fun x => (x.b.cell (p := ⟨w.heap.size, 0, none⟩) (by simp)).trans h0, fun x => (x.b.cell (p := ⟨w.heap.size, 1, none⟩) (by simp)).trans h1, fun x => (x.b.cell (p := ⟨w.heap.size, 2, none⟩) (by simp)).trans h2⟩

theorem within1_any (n lo hi : Int) (w : World) :
    Calls Try.prog 32 #[.int .i64 n, .int .i64 lo, .int .i64 hi] w fun e w' => e = .returned (.bool (within n lo hi)) ∧ w = w' := by
  go_enter Try.func32, Try.ntmps32
  go_wp2
  · go_ret
    have h : lo ≤ n := by assumption
    exact ⟨ret_b (within_eq h).symm, rfl⟩
  · go_ret
    have h : n < lo := by assumption
    exact ⟨ret_b (within_lo h).symm, rfl⟩
theorem within_any (n lo hi : Int) (w : World) :
    Calls Try.prog 61 #[.int .i64 n, .int .i64 lo, .int .i64 hi] w fun e w' => e = .returned (.bool (within n lo hi)) ∧ w = w' := by
  go_enter Try.func61, Try.ntmps61
  go_wp2_with (go_at_call 32; refine (within1_any _ _ _ _).mono ?_; rintro e w' ⟨rfl, rfl⟩)
  go_ret
  exact ⟨rfl, rfl⟩
theorem isFrom_any (n lo hi : Int) (w : World) :
    Calls Try.prog 89 #[.int .i64 n, .int .i64 lo, .int .i64 hi] w fun e w' => e = .returned (.bool (within n lo hi)) ∧ w = w' := by
  go_enter Try.func89, Try.ntmps89
  go_wp2
  · go_ret
    have h : lo ≤ n := by assumption
    exact ⟨ret_b (within_eq h).symm, rfl⟩
  · go_ret
    have h : n < lo := by assumption
    exact ⟨ret_b (within_lo h).symm, rfl⟩
theorem isPossible_any (D : Duct) (k : Nat) (w : World) :
    Calls Try.prog 90 #[.agg #[.int .i64 (D.lo k), .int .i64 (D.hi k), .int .i64 (D.co k)]] w fun e w' => e = .returned (.bool (ptOk D k)) ∧ Below w.heap.size w w' := by
  obtain ⟨w1, x, hw1, hb1, hz1, F0, F1, F2⟩ := box_point w (D.lo k) (D.hi k) (D.co k)
  have HB := Lib.hid hb1; clear hb1 hz1
  go_enter Try.func90, Try.ntmps90
  go_wp2_with (go_at_call 89; refine (isFrom_any _ _ _ _).mono ?_; rintro e w' ⟨rfl, rfl⟩)
  all_goals
    go_ret
    refine ⟨ret_b ?_, bT HB.out x.b⟩; clear HB F0 F1 F2 hw1; go_light; simp [ptOk, *] <;> (intros; exfalso; omega)
end Go.Proofs.Ytkdlppekjjbgoaa
